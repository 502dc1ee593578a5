package change

import (
	"errors"
	"fmt"
	"math"
	"slices"
	"strings"
	"sync"
	"testing"

	"amanuensis/api"
	"amanuensis/edit"
)

// filesOf gives files of texts; they are called a, b, c ..
func filesOf(texts ...string) []api.File {
	var all []api.File
	for i, t := range texts {
		all = append(all, api.File{Name: string(rune('a' + i)), Text: t})
	}
	return all
}

// marked gives files of texts, one of which has marks, and which one, and where the marks stood.
func marked(texts ...string) (files []api.File, file int, places []int) {
	files = filesOf(texts...)
	for i := range files {
		for strings.Contains(files[i].Text, "«") {
			ahead, behind, _ := strings.Cut(files[i].Text, "«")
			files[i].Text = ahead + behind
			file, places = i, append(places, len(ahead))
		}
	}
	return files, file, places
}

// number gives that of an error; nothing else may be one.
func number(t *testing.T, err error) api.Errno {
	t.Helper()
	if err == nil {
		return api.OK
	}
	var e api.Errno
	if !errors.As(err, &e) || e == api.OK {
		t.Fatalf("%v", err)
	}
	return e
}

// patched gives what patches make of files, which must be those of the files that change, ascending.
func patched(t *testing.T, files []api.File, patches []api.Patch) []api.File {
	t.Helper()
	out, last := slices.Clone(files), -1
	for _, p := range patches {
		if p.File <= last || p.File >= len(files) {
			t.Fatalf("%q: %v", files, patches)
		}
		last = p.File
		text, err := edit.Apply(files[p.File].Text, p.Spans)
		if err != nil || text == files[p.File].Text {
			t.Fatalf("%q: %v: %v", files, p, err)
		}
		out[p.File].Text = text
	}
	return out
}

// told gives an error's name, or the texts that come of patches, with `|` between them.
func told(t *testing.T, files []api.File, patches []api.Patch, err error) string {
	t.Helper()
	if err != nil {
		if patches != nil {
			t.Fatalf("%v beside %v", patches, err)
		}
		return number(t, err).Error()
	}
	var texts []string
	for _, f := range patched(t, files, patches) {
		texts = append(texts, f.Text)
	}
	return strings.Join(texts, "|")
}

// rename renames what stands at the mark.
func rename(t *testing.T, name string, texts ...string) string {
	t.Helper()
	files, file, at := marked(texts...)
	p, err := Rename(files, file, at[0], name)
	return told(t, files, p, err)
}

// extract extracts what stands between the marks.
func extract(t *testing.T, name string, texts ...string) string {
	t.Helper()
	files, file, at := marked(texts...)
	p, err := Extract(files, file, at[0], at[1], name)
	return told(t, files, p, err)
}

// inline undoes the let at the mark.
func inline(t *testing.T, texts ...string) string {
	t.Helper()
	files, file, at := marked(texts...)
	p, err := Inline(files, file, at[0])
	return told(t, files, p, err)
}

// order puts the names of the def at the mark in order.
func order(t *testing.T, order []int, texts ...string) string {
	t.Helper()
	files, file, at := marked(texts...)
	p, err := Order(files, file, at[0], order)
	return told(t, files, p, err)
}

// calls are all four, with arguments that lead to nothing wrong where files[file] is `sound`.
func calls() map[string]func(files []api.File, file int) ([]api.Patch, error) {
	return map[string]func(files []api.File, file int) ([]api.Patch, error){
		"rename":  func(files []api.File, file int) ([]api.Patch, error) { return Rename(files, file, 8, "new") },
		"extract": func(files []api.File, file int) ([]api.Patch, error) { return Extract(files, file, 31, 32, "new") },
		"inline":  func(files []api.File, file int) ([]api.Patch, error) { return Inline(files, file, 22) },
		"order":   func(files []api.File, file int) ([]api.Patch, error) { return Order(files, file, 8, []int{1, 0}) },
	}
}

// sound is a file in which all calls do something.
const sound = "pub def f(x, y) = let z = 1 in z;"

func TestC1FaultsOfFiles(t *testing.T) {
	long := strings.Repeat(" ", api.MaxFile+1)
	many := make([]string, api.MaxFiles+1)
	many[0] = sound
	for name, call := range calls() {
		for _, c := range []struct {
			files []api.File
			want  api.Errno
		}{
			{filesOf(sound), api.OK},
			{filesOf(many[:api.MaxFiles]...), api.OK},
			{filesOf(sound, long[1:]), api.OK},
			{filesOf(many...), api.ErrFull},
			{filesOf(sound, long), api.ErrFull},
			{[]api.File{{Name: "1", Text: sound}, {Name: "b", Text: long}}, api.ErrFull},
			{[]api.File{{Name: "a", Text: sound}, {Name: "in"}, {Name: "a"}}, api.ErrName},
			{[]api.File{{Name: "a", Text: sound}, {Name: "a"}, {Name: "1"}}, api.ErrTwice},
			{[]api.File{{Name: "a", Text: sound}, {Name: strings.Repeat("w", 41)}}, api.ErrName},
		} {
			p, err := call(c.files, 0)
			if number(t, err) != c.want || (len(p) == 1) != (err == nil) {
				t.Errorf("%s %.80q: %v, %v, want %v", name, c.files, p, err, c.want)
			}
			if c.want == api.OK {
				continue
			}
			for _, file := range []int{-1, len(c.files)} { // there is no such file, but this is told first
				if p, err := call(c.files, file); number(t, err) != c.want || p != nil {
					t.Errorf("%s %.80q of file %d: %v, %v, want %v", name, c.files, file, p, err, c.want)
				}
			}
		}
	}
}

func TestC1NoSuchFile(t *testing.T) {
	for name, call := range calls() {
		for _, file := range []int{math.MinInt, -1, 2, 3, math.MaxInt} {
			if p, err := call(filesOf(sound, sound), file); number(t, err) != api.ErrRange || p != nil {
				t.Errorf("%s of file %d: %v, %v", name, file, p, err)
			}
		}
		if p, err := call(nil, 0); number(t, err) != api.ErrRange || p != nil {
			t.Errorf("%s of no files: %v, %v", name, p, err)
		}
		if p, err := call(filesOf(sound, sound), 1); err != nil || len(p) != 1 || p[0].File != 1 {
			t.Errorf("%s of file 1: %v, %v", name, p, err)
		}
	}
	if p, err := Rename(filesOf(sound), 1, 8, "1"); number(t, err) != api.ErrRange || p != nil {
		t.Errorf("%v, %v", p, err)
	}
	if p, err := Extract(filesOf(sound), -1, 31, 32, "1"); number(t, err) != api.ErrRange || p != nil {
		t.Errorf("%v, %v", p, err)
	}
}

// Where two are wrong, the one that the chapter has first is told.
func TestC1WhichFaultComesFirst(t *testing.T) {
	long := " " + strings.Repeat("-", api.MaxFile-100) + "\n"
	deep := nest(api.MaxNest-2, "z")
	order10, order01 := []int{1, 0}, []int{0, 1, 2}
	for _, c := range [][2]string{
		{rename(t, "1", "def f = «g;"), "ErrRange"},
		{rename(t, "in", "def f(x«, y) = x;"), "ErrName"},
		{rename(t, strings.Repeat("y", 41), "def f(x«, y) = x;"), "ErrName"},
		{rename(t, strings.Repeat("y", 40), long+"def f(x«, "+strings.Repeat("y", 40)+") = [x, x];"), "ErrClash"},
		{rename(t, strings.Repeat("y", 40), long+"def f(x«, z) = [x, x];"), "ErrFull"},

		{extract(t, "1", "def f = «? «;"), "ErrRange"},
		{extract(t, "1", "def f = «?«;"), "ErrHole"},
		{extract(t, "f", "def f = «[g]«;"), "ErrHole"},
		{extract(t, strings.Repeat("w", 41), "def "+strings.Repeat("w", 41)+"(x) = «x«;"), "ErrName"},
		{extract(t, "x", "def f(x) = «x«; def x = 1;"), "ErrTwice"},
		{extract(t, "x", "def f(x) = «["+strings.Repeat("1,", api.MaxFile/2-12)+"1]«;"), "ErrClash"},
		{extract(t, "y", "def f(x) = «["+strings.Repeat("1,", api.MaxFile/2-12)+"1]«;"), "ErrFull"},

		{inline(t, "def f = let x = «? in ;"), "ErrRange"},
		{inline(t, "def f = let «x = ? in ;"), "ErrType"},
		{inline(t, "def f = let «x = (fun(y) => y in fun(y) => x;"), "ErrHole"},
		{inline(t, "def f(y) = let «x = fun(z) => y in ;"), "ErrHole"},
		{inline(t, "def f(y) = let «x = (y in fun(y) => x;"), "ErrHole"},
		{inline(t, "def f(y) = let «z = (y) in let y = 1 in "+deep+";"), "ErrClash"},
		{inline(t, "def f(y) = let «z = (y) in let x = 1 in "+deep+";"), "ErrFull"},

		{order(t, order01, "def «f(x, ) = 1;"), "ErrRange"},
		{order(t, order01, "def «f(x, , x) = f;"), "ErrHole"},
		{order(t, order10, "def «f(x, x) = f;"), "ErrTwice"},
		{order(t, order10, "def «f(x, y) = [f(1, ), f];"), "ErrClash"},
		{order(t, order10, "def «f(x, y) = [f(1, )];"), "ErrHole"},
	} {
		if c[0] != c[1] {
			t.Errorf("%.200q, want %s", c[0], c[1])
		}
	}
}

// Files whose text stays have no patch, whatever stands in them.
func TestC1OnlyWhatChanges(t *testing.T) {
	for _, c := range [][2]string{
		{rename(t, "g", "use c.f; def k = f;", "def f = 1;", "pub def «f = 1; "), "use c.g; def k = g;|def f = 1;|pub def g = 1; "},
		{rename(t, "f", "def «f = f;", "use a.f;"), "def f = f;|use a.f;"},
		{order(t, []int{1, 0}, "pub def «f(x, y) = x;", "use a.f; def k = f(1, 1);", "use a.f; def k = f(1, 2);"), "pub def f(y, x) = x;|use a.f; def k = f(1, 1);|use a.f; def k = f(2, 1);"},
		{order(t, []int{1, 0}, "pub def «f(x, y) = x;", "use a.f; def k = f(f(1, 2), f(1, 2));"), "pub def f(y, x) = x;|use a.f; def k = f(f(2, 1), f(2, 1));"},
		{order(t, []int{0, 1}, "pub def «f(x, y) = f(1, 2);"), "pub def f(x, y) = f(1, 2);"},
		{order(t, nil, "def «f() = f();"), "def f() = f();"},
		{inline(t, "def f = 1;", "def f = let «x = 1 in 2;", "def f = 1;"), "def f = 1;|def f = 2;|def f = 1;"},
		{extract(t, "h", "def f = 1;", "def f = «1«;", "def f = 1;"), "def f = 1;|def h = 1;\ndef f =  h ;|def f = 1;"},
	} {
		if c[0] != c[1] {
			t.Errorf("%q, want %q", c[0], c[1])
		}
	}
}

// A text may be as long as MaxFile, not longer.
func TestC1JustTooLong(t *testing.T) {
	for over := range 2 {
		fill := func(text string, grown int) string { // a text that becomes too long by over
			bytes := api.MaxFile - len(strings.ReplaceAll(text, "«", "")) - grown + over
			return strings.Repeat(" ", bytes) + text
		}
		for name, got := range map[string]string{
			"rename":           rename(t, "longer", fill("def «x = [x, x];", 15)),
			"rename elsewhere": rename(t, "longer", "pub def «x = 1;", "use a.x;", fill("use a.x as y; def z = y;", 5)),
			"extract":          extract(t, "h", fill("def f(x) = «x«;", len("def h(x) = x;\n")+5)),
			"extract alone":    extract(t, "h", fill("def f(x) = «1«;", len("def h = 1;\n")+2)),
			"inline":           inline(t, fill("def f = let «x = 123456 in [x, x, x];", 3*7-len("let x = 123456 in "))),
		} {
			if over == 1 && got != "ErrFull" {
				t.Errorf("%s, one byte too long: %.30q", name, got)
			}
			if size := len(got[strings.LastIndex(got, "|")+1:]); over == 0 && size != api.MaxFile {
				t.Errorf("%s: %d bytes, %.30q", name, size, got)
			}
		}
	}
	full := strings.Repeat(" ", api.MaxFile-21) + "def «f(x, long) = [x];"
	if got := order(t, []int{1, 0}, full); len(got) != api.MaxFile || !strings.HasSuffix(got, " def f(long, x) = [x];") {
		t.Errorf("order: %.30q", got)
	}
}

// nest puts so many brackets around a text.
func nest(n int, text string) string { return strings.Repeat("(", n) + text + strings.Repeat(")", n) }

// An expression that would then stand in too many others is too much.
func TestC1JustTooDeep(t *testing.T) {
	const most = api.MaxNest
	for _, c := range []struct{ name, got, want string }{
		{"names in the call", extract(t, "h", "def f(x) = "+nest(most-1, "«x«")+";"), "def h(x) = x;\ndef f(x) = " + nest(most-1, " h(x) ") + ";"},
		{"names in the call", extract(t, "h", "def f(x) = "+nest(most, "«x«")+";"), "ErrFull"},
		{"no names", extract(t, "h", "def f(x) = "+nest(most, "«1«")+";"), "def h = 1;\ndef f(x) = " + nest(most, " h ") + ";"},
		{"what is extracted stands in fewer", extract(t, "h", "def f(x) = («"+nest(most-1, "x")+"«);"), "def h(x) = " + nest(most-1, "x") + ";\ndef f(x) = ( h(x) );"},
		{"a let, and a name", inline(t, "def f = let «x = 1 in "+nest(most-1, "x")+";"), "def f = " + nest(most-1, "(1)") + ";"},
		{"a group", inline(t, "def f = let «x = (1) in "+nest(most-1, "x")+";"), "ErrFull"},
		{"a group", inline(t, "def f = let «x = (1) in "+nest(most-2, "x")+";"), "def f = " + nest(most-2, "((1))") + ";"},
		{"a fun", inline(t, "def f = let «x = fun(y) => [y] in [x, "+nest(most-3, "x")+"];"), "ErrFull"},
		{"a fun", inline(t, "def f = let «x = fun(y) => [y] in [x, "+nest(most-4, "x")+"];"), "def f = [(fun(y) => [y]), " + nest(most-4, "(fun(y) => [y])") + "];"},
		{"not used", inline(t, "def f = let «x = (1) in "+nest(most-1, "y")+";"), "def f = " + nest(most-1, "y") + ";"},
		{"another def, which is so already", inline(t, "def f = let «x = 1 in x; def g = "+nest(most+1, "1")+";"), "ErrFull"},
		{"another def, which is so already", extract(t, "h", "def f = «1«; def g = "+nest(most+1, "1")+";"), "ErrFull"},
		{"another file, which is so already", extract(t, "h", "def f = «1«;", "def g = "+nest(most+1, "1")+";"), "def h = 1;\ndef f =  h ;|def g = " + nest(most+1, "1") + ";"},
		{"a name is not nested", rename(t, "g", "def «f = "+nest(most+1, "1")+";"), "def g = " + nest(most+1, "1") + ";"},
		{"nor is an order", order(t, []int{1, 0}, "def «f(x, y) = "+nest(most+1, "1")+";"), "def f(y, x) = " + nest(most+1, "1") + ";"},
		{"what is missing elsewhere is none of that", inline(t, "def f = let «x = 1 in (x + ); def g = "+nest(most-1, "()")+"; def k = fun() => ;"), "def f = ((1) + ); def g = " + nest(most-1, "()") + "; def k = fun() => ;"},
	} {
		if c.got != c.want {
			t.Errorf("%s: %s, want %s", c.name, c.got, c.want)
		}
	}
}

// What counts for MaxNest is all that an expression may stand in.
func TestC1AllThatNests(t *testing.T) {
	for _, around := range []string{"let y = 1 in _", "let y = _ in 1", "if _ then 1 else 2", "if 1 then _ else 2", "if 1 then 2 else _", "fun() => _", "g(1, _)", "(_)", "[1, _]"} {
		for deep, want := range map[int]bool{api.MaxNest - 2: false, api.MaxNest - 1: true} {
			text := "_"
			for range deep {
				text = strings.Replace(text, "_", around, 1)
			}
			got := inline(t, "def f = let «x = (1) in "+strings.Replace(text, "_", "x", 1)+";")
			if (got == "ErrFull") != want {
				t.Errorf("%s, %d times: %s", around, deep, got)
			}
		}
	}
	for _, row := range []string{"x + x + x", "x(x)(x)(x)", "x == x"} { // these do not count among each other
		got, want := inline(t, "def f = let «x = 1 in "+nest(api.MaxNest-2, row)+";"), "def f = "+nest(api.MaxNest-2, strings.ReplaceAll(row, "x", "(1)"))+";"
		if got != want {
			t.Errorf("%s: %s, want %s", row, got, want)
		}
	}
}

// P2: what is handed in stays, and what comes out is fresh.
func TestP2NothingIsShared(t *testing.T) {
	for name, call := range calls() {
		files := append(make([]api.File, 0, 9), filesOf(sound, "use a.f; def g = f(1, 2);", sound)...)
		kept := slices.Clone(files)
		first, err := call(files, 0)
		if err != nil {
			t.Fatal(name, err)
		}
		want := fmt.Sprint(first)
		for i := range first {
			first[i].File = 9
			for k := range first[i].Spans[:cap(first[i].Spans)] {
				first[i].Spans[:cap(first[i].Spans)][k] = api.Span{From: 9, To: 9, Text: "9"}
			}
		}
		second, err := call(files, 0)
		if err != nil || fmt.Sprint(second) != want || !slices.Equal(files, kept) {
			t.Errorf("%s: %v, %v, want %s; %q", name, second, err, want, files)
		}
	}
	numbers := append(make([]int, 0, 4), 1, 0)
	if _, err := Order(filesOf(sound), 0, 8, numbers); err != nil || !slices.Equal(numbers, []int{1, 0}) {
		t.Errorf("%v, %v", numbers, err)
	}
}

// P2: an answer does not hang on who else asks.
func TestP2ManyHands(t *testing.T) {
	files := filesOf(strings.Repeat(" ", 30), sound, "pub use b.f as g; def k(x) = let y = x in [y, y];")
	var hands sync.WaitGroup
	for name, call := range calls() {
		one, err := call(files, 1)
		want := fmt.Sprint(one, err)
		for range 4 {
			hands.Go(func() {
				for range 20 {
					if p, err := call(files, 1); fmt.Sprint(p, err) != want {
						t.Errorf("%s: %v, %v, want %s", name, p, err, want)
					}
				}
			})
		}
	}
	hands.Wait()
}
