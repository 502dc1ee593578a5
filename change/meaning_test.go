package change

import (
	"slices"
	"strings"
	"testing"

	"amanuensis/api"
	"amanuensis/syntax"
	"amanuensis/value"
)

// Names of these programs begin with what they may well be: i numbers, b truths, t texts, l lists of numbers, f functions of one number, h functions of a number and a function.

// kinded gives a name of a kind.
func (d *dice) kinded(kind string) string { return kind + strings.Trim(d.pick("0 1 2"), "0") }

// sense gives an expression that may well be of the kind that is wished, with the names that may well be known.
func (d *dice) sense(deep int, wish string, known []string) string {
	if d.roll(80) == 0 {
		wish = d.pick("i b t l f h")
	}
	if deep == 0 || d.roll(5) == 0 {
		return d.simple(wish, known)
	}
	again := func(wish string) string { return d.sense(deep-1, wish, known) }
	within := func(wish string, names ...string) string { return d.sense(deep-1, wish, slices.Concat(known, names)) }
	name := d.kinded(d.pick("i b t l f"))
	switch d.roll(10) {
	case 0:
		return "(" + again(wish) + ")"
	case 1:
		return "(if " + again("b") + " then " + again(wish) + " else " + again(wish) + ")"
	case 2, 3:
		return "(let " + name + " = " + again(name[:1]) + " in " + within(wish, name) + ")"
	case 4:
		return "(let " + name + " = " + d.simple(name[:1], known) + " in " + within(wish, name) + ")"
	case 5:
		return "(fun(" + name + ") => " + within(wish, name) + ")(" + again(name[:1]) + ")"
	}
	i, f := d.kinded("i"), d.kinded("f")
	switch wish {
	case "f":
		return "(fun(" + i + ") => " + within("i", i) + ")"
	case "h":
		return "(fun(" + i + ", " + f + ") => " + within("i", i, f) + ")"
	}
	return d.made(wish, again)
}

// made gives an expression of a kind that is made of others; letters stand for these.
func (d *dice) made(kind string, again func(string) string) string {
	form := d.pick(map[string]string{"i": "F(I) H(I,F) (I+I) (I-I) (I*I) (I+{--}I)", "b": "(I<I) (I==I) (L==L) (T==T) (B==B)", "t": "(T++T)", "l": "[] [I] [I,I] [I,I,I]"}[kind])
	out := ""
	for _, c := range form {
		if 'A' <= c && c <= 'Z' {
			out += again(strings.ToLower(string(c)))
		} else {
			out += string(c)
		}
	}
	return out
}

// simple gives an expression without others in it.
func (d *dice) simple(wish string, known []string) string {
	var fit []string
	for _, name := range known {
		if strings.HasPrefix(name, wish) {
			fit = append(fit, name)
		}
	}
	if len(fit) > 0 && d.roll(4) > 0 {
		return fit[d.roll(len(fit))]
	}
	switch wish {
	case "i":
		return d.pick("0 1 2 3 10 999999999999999999")
	case "b":
		return d.pick("true false")
	case "t":
		return d.pick(`"" "a" "é\n"`)
	case "l":
		return d.pick("[] [1] [1,2] [[1],[2,3]]")
	case "f":
		return "(fun(i) => i" + d.pick("+1 *i -2") + ")"
	}
	return "(fun(i, f) => f(" + d.pick("i f(i) f(f(i))") + "))"
}

// sensible gives files whose defs may well come to values.
func (d *dice) sensible() []api.File {
	var texts []string
	for file := range 1 + d.roll(2) {
		text := ""
		var known []string
		for range 2 + d.roll(5) {
			name := d.kinded(d.pick("i b t l f h"))
			inner := slices.Concat(known, []string{"i", "f"})
			switch {
			case file > 0 && d.roll(3) == 0:
				text += "use a." + name + ";"
			case name[0] == 'f':
				text += "pub def " + name + "(i) = if i < 1 then " + d.sense(2, "i", inner[:len(inner)-1]) + " else " + name + "(i - 1)" + d.pick("+ - *") + d.sense(2, "i", inner[:len(inner)-1]) + ";"
			case name[0] == 'h':
				text += "pub def " + name + "(i, f) = " + d.sense(3, "i", inner) + ";"
			default:
				text += "pub def " + name + " = " + d.sense(3, name[:1], known) + ";"
			}
			known = append(known, name)
			text += d.space()
		}
		texts = append(texts, text)
	}
	return filesOf(texts...)
}

// come tells what a def comes to: a value, or an error's name.
func come(t *testing.T, files []api.File, file int, name string, fuel int) (string, bool) {
	t.Helper()
	text, err := value.Eval(files, file, name, fuel)
	if err != nil {
		return number(t, err).Error(), false
	}
	return text, true
}

// defsOf gives the names of the defs of a file that have no NParams, in their order, also those that are twice.
func defsOf(files []api.File, file int) []string {
	var all []string
	for _, item := range syntax.Files(files)[file].Items {
		if d, ok := item.(*syntax.Def); ok && d.Params == nil {
			all = append(all, d.Name.Text)
		}
	}
	return all
}

// bound tells with how much fuel a def must come to the same, if it came to a value, or not, with some; false, if nothing is promised.
func bound(kind string, fuel int, isValue bool) (int, bool) {
	switch kind {
	case "rename", "inline":
		return fuel, true
	case "order":
		return fuel, isValue
	}
	return 2*fuel + 2, isValue && 2*fuel+2 <= api.MaxFuel
}

// same holds what all defs come to ahead of a change against what they come to behind it, and tells how many were held.
func (d *dice) same(t *testing.T, kind string, before, after []api.File) int {
	t.Helper()
	count := 0
	for file := range before {
		names, renamed := defsOf(before, file), defsOf(after, file)
		if kind == "extract" { // there is one more
			renamed = names
		}
		for i, name := range names {
			for _, fuel := range []int{d.roll(12), 100} {
				want, isValue := come(t, before, file, name, fuel)
				more, ok := bound(kind, fuel, isValue)
				if !ok {
					continue
				}
				if got, _ := come(t, after, file, renamed[i], more); got != want {
					t.Fatalf("%s of\n%q to\n%q: %s with %d is %s, with %d it was %s", kind, before, after, name, more, got, fuel, want)
				}
				if isValue {
					count++
				}
			}
		}
	}
	return count
}

// try changes files in some way, which may not go, and tells in which.
func (d *dice) try(s *slow) (string, []api.Patch) {
	kind := d.pick("rename extract inline order")
	var p []api.Patch
	switch kind {
	case "rename":
		file, at := d.spot(s, -1)
		p, _ = Rename(s.files, file, at, d.pick("i i1 f b new"))
	case "extract":
		file, from, to := d.piece(s)
		p, _ = Extract(s.files, file, from, to, d.pick("i new f2 l"))
	case "inline":
		file, at := d.spot(s, api.ULet)
		p, _ = Inline(s.files, file, at)
	case "order":
		file, at := d.spot(s, api.UDef)
		p, _ = Order(s.files, file, at, []int{1, 0})
	}
	return kind, p
}

// With which fuel something comes to the same.
func TestC6Fuel(t *testing.T) {
	for _, c := range []struct {
		got, was string
		name, of string // of the def ahead of the change, and behind it
		fuel     int    // with which it came to its value, and with less it did not
		more     int    // with which it does so now, and with less it does not
	}{
		{rename(t, "w", "def «x = f(2); def f(n) = n;"), "def x = f(2); def f(n) = n;", "x", "w", 2, 2},
		{inline(t, "def x = let «g = f in [g(1), g(2)]; def f(n) = n;"), "def x = let g = f in [g(1), g(2)]; def f(n) = n;", "x", "x", 3, 3},
		{order(t, []int{1, 0}, "def x = «f(f(1, 2), f(3, 4)); def f(n, m) = n - m;"), "def x = f(f(1, 2), f(3, 4)); def f(n, m) = n - m;", "x", "x", 4, 4},
		{extract(t, "h", "def x = «1«;"), "def x = 1;", "x", "x", 1, 2},
		{extract(t, "h", "def x = f(3); def f(n) = if «n == 0« then 0 else f(n - 1);"), "def x = f(3); def f(n) = if n == 0 then 0 else f(n - 1);", "x", "x", 5, 9},
		{extract(t, "h", "def x = [y, y]; def y = [«f«(1)]; def f(n) = n;"), "def x = [y, y]; def y = [f(1)]; def f(n) = n;", "x", "x", 5, 7},
	} {
		before, after := filesOf(c.was), filesOf(c.got)
		want, ok := come(t, before, 0, c.name, c.fuel)
		if less, _ := come(t, before, 0, c.name, c.fuel-1); !ok || less != "ErrLong" {
			t.Errorf("%q: %s, %s", c.was, want, less)
		}
		got, _ := come(t, after, 0, c.of, c.more)
		if less, _ := come(t, after, 0, c.of, c.more-1); got != want || less != "ErrLong" || c.more > 2*c.fuel+2 {
			t.Errorf("%q: %s, %s, want %s", c.got, got, less, want)
		}
	}
}

func TestC6MeansTheSame(t *testing.T) {
	d := dice(6)
	seen := map[string]int{}
	for range 260 {
		s := slowOf(d.sensible())
		for range 8 {
			kind, p := d.try(s)
			if len(p) > 0 {
				seen[kind]++
				seen[kind+" values"] += d.same(t, kind, s.files, patched(t, s.files, p))
			}
		}
	}
	t.Log(seen)
	for _, kind := range []string{"rename", "extract", "inline", "order"} {
		if seen[kind] < 60 || seen[kind+" values"] < 300 {
			t.Errorf("%s: %v", kind, seen)
		}
	}
}
