package offer

import (
	"errors"
	"math"
	"slices"
	"strings"
	"sync"
	"testing"

	"amanuensis/api"
)

// filesOf gives files of texts; they are called a, b, c ..
func filesOf(texts ...string) []api.File {
	var all []api.File
	for i, t := range texts {
		all = append(all, api.File{Name: string(rune('a' + i)), Text: t})
	}
	return all
}

// marked gives files of texts, one of which has a mark, and which one, and where the mark stood.
func marked(t *testing.T, texts ...string) (files []api.File, file, at int) {
	t.Helper()
	files, file = filesOf(texts...), -1
	for i, f := range files {
		if ahead, behind, ok := strings.Cut(f.Text, "«"); ok {
			files[i].Text = ahead + behind
			file, at = i, len(ahead)
		}
	}
	if file < 0 {
		t.Fatalf("%q: no mark", texts)
	}
	return files, file, at
}

// number gives that of an error; nothing else may be one.
func number(t *testing.T, err error) api.Errno {
	t.Helper()
	if err == nil {
		return api.OK
	}
	var e api.Errno
	if !errors.As(err, &e) || e == api.OK {
		t.Fatalf("%v", err)
	}
	return e
}

// ask tells what Complete answers: names with a blank between, or an error's name.
func ask(t *testing.T, files []api.File, file, at int) string {
	t.Helper()
	names, err := Complete(files, file, at)
	if err != nil {
		if names != nil {
			t.Fatalf("%v beside %v", names, err)
		}
		return number(t, err).Error()
	}
	for i, n := range names {
		if n == "" || i > 0 && n <= names[i-1] {
			t.Fatalf("%q", names)
		}
	}
	return strings.Join(names, " ")
}

// asked is a question, whose place is marked, and the answer.
type asked struct {
	want  string
	texts []string
}

func of(want string, texts ...string) asked { return asked{want, texts} }

func check(t *testing.T, all []asked) {
	t.Helper()
	for _, c := range all {
		files, file, at := marked(t, c.texts...)
		if got := ask(t, files, file, at); got != c.want {
			t.Errorf("%q: %s, want %s", c.texts, got, c.want)
		}
	}
}

func TestO1TheExample(t *testing.T) {
	files := filesOf("def f(x, b) = if b then ? + 1 else x; def g = 2; def h = true;")
	if got := ask(t, files, 0, 24); got != "g x" {
		t.Error(got)
	}
}

func TestO1FilesWithFaults(t *testing.T) {
	fine := api.File{Name: "a", Text: "def f = ?;"}
	long := api.File{Name: "b", Text: strings.Repeat(" ", api.MaxFile+1)}
	nameless := api.File{Name: "def"}
	var many []api.File
	for i := range api.MaxFiles + 1 {
		many = append(many, api.File{Name: "n" + string(rune('a'+i)), Text: fine.Text})
	}
	for _, c := range []struct {
		files []api.File
		want  string
	}{
		{many, "ErrFull"},
		{many[1:], "f"},
		{[]api.File{fine, long}, "ErrFull"},
		{[]api.File{nameless, long}, "ErrFull"},
		{[]api.File{fine, nameless}, "ErrName"},
		{[]api.File{fine, fine}, "ErrTwice"},
		{[]api.File{fine, fine, nameless}, "ErrTwice"},
		{[]api.File{fine, nameless, fine}, "ErrName"},
		{[]api.File{fine, {Name: "b", Text: long.Text[1:]}}, "f"},
	} {
		if got := ask(t, c.files, 0, 8); got != c.want {
			t.Errorf("%d files: %s, want %s", len(c.files), got, c.want)
		}
		if c.want == "f" {
			continue
		}
		for _, file := range []int{-1, len(c.files), math.MinInt, math.MaxInt} {
			if got := ask(t, c.files, file, -1); got != c.want {
				t.Errorf("%d files, file %d: %s, want %s", len(c.files), file, got, c.want)
			}
		}
	}
}

func TestO1NoSuchFile(t *testing.T) {
	files := filesOf("def f = ?;", "def g = ? + true;")
	for _, file := range []int{-1, 2, 16, math.MinInt, math.MaxInt} {
		if got := ask(t, files, file, 8); got != "ErrRange" {
			t.Errorf("file %d: %s", file, got)
		}
	}
	for _, file := range []int{-1, 0, 1} {
		if got := ask(t, nil, file, 0); got != "ErrRange" {
			t.Errorf("of no files, file %d: %s", file, got)
		}
	}
}

// Every place of a text: a `?` of a def begins at some of them alone.
func TestO1OnlyWhereAHoleBegins(t *testing.T) {
	text := "use a.f as u; def f(x) = [ «?, 12 ] == [ ] == \"?\" -- ?\n ; {- ? -} ?; def = ?; def g = [é(«?), \"?\"] ?; pub ?; use ? . x; def b = «? + true; $?"
	want := map[int]string{}
	for _, answer := range []string{"b x", "b f g u", "ErrType"} {
		at := strings.Index(text, "«")
		text = text[:at] + text[at+len("«"):]
		want[at] = answer
	}
	places := []int{math.MinInt, -2, math.MaxInt - 1, math.MaxInt}
	for at := -1; at < len(text)+3; at++ {
		places = append(places, at)
	}
	for _, at := range places {
		answer, ok := want[at]
		if !ok {
			answer = "ErrRange"
		}
		if got := ask(t, filesOf(text), 0, at); got != answer {
			t.Errorf("at %d: %s, want %s", at, got, answer)
		}
	}
}

func TestO1HolesOfNoDef(t *testing.T) {
	deep := func(n int) string { return "def f = " + strings.Repeat("(", n) + "«?" + strings.Repeat(")", n) + ";" }
	check(t, []asked{
		of("ErrRange", "«?"),
		of("ErrRange", "def f = 1; «?;"),
		of("ErrRange", "def = «?;"),
		of("ErrRange", "def «?"),
		of("ErrRange", "def (x) = «?;"),
		of("ErrRange", "pub «?;"),
		of("ErrRange", "use «?;"),
		of("ErrRange", "use a.«?;"),
		of("ErrRange", "def f = 1 + \"«?\";"),
		of("ErrRange", "def f = 1 --«?"),
		of("ErrRange", "def f = (1 {-«?-});"),
		of("ErrRange", "def f = \"«?"),
		of("ErrRange", "def f = x «?;"),
		of("ErrRange", "def f = « ?;"),
		of("ErrRange", "def f = ?«;"),
		of("ErrRange", "", "def f = «1;"),
		of("ErrRange", deep(api.MaxNest+1)),
		of("f", deep(api.MaxNest)),
		of("f", "pub f «?;"), // much is missing, but not its name
		of("f", "def f«?"),
		of("f", "", "def f = «?"),
	})
}

func TestO1WithoutAType(t *testing.T) {
	check(t, []asked{
		of("ErrType", "def f = «? + true;"),
		of("ErrType", "def f(x) = if x then x + 1 else «?;"),
		of("ErrType", "def f = [«?, f];"),
		of("ErrType", "def f(x) = [x(x), «?];"),
		of("ErrType", "def x = 1; def x = «? + true;"),             // twice, but a def
		of("ErrType", "def f = [«?, g]; def g = f == [1 + \"\"];"), // they are a group
		of("ErrType", "use b.g; pub def f = [«?, g];", "use a.f; pub def g = f == [1 + \"\"];"),
		of("f g", "def f = [«?, g] == []; def g = 1 + true;"), // what it leads to has none, and is free
		of("f g", "def f = «? + 1; def g = 1 + true;"),
		of("f g", "def f = «? + 1; def g = 1 + true;", "def h = 1 + \"\";"),
		of("f", "def f = «? + 1; def g = if f then 1 else 2;"), // g would be of its group
		of("ErrRange", "def f = « ? + true;"),                  // the place first
	})
}

// Names of an NParams, or a `let`: those that are around the `?`, and others.
func TestO1NamesAround(t *testing.T) {
	check(t, []asked{
		of("x y", "def f(x, y) = «?;"), // f would hold itself
		of("f x y", "def f(x, y) = [«?] == [];"),
		of("f x y", "def f = [fun(x, y) => «?] == [];"),
		of("f x y z", "def f(x) = fun(y) => let z = 1 in [«?] == [];"),
		of("f", "def f = let x = «? in x;"),
		of("f x", "def f = let x = f in «?;"),
		of("f x y", "def f(x) = let z = let y = 2 in [«?] in 1;"),
		of("f", "def f = [(fun(x) => 1) == (fun(x) => 2), [«?] == [], let y = 1 in true];"),
		of("f g", "def f = [«?] == []; def g(x) = let y = 1 in fun(z) => y;"),
		of("f x", "def f = [(fun(x) => [«?])(fun(y) => y) == [], (fun(y) => y)(true)];"),
		of("f x z", "def f(x) = if [x] == [] then let z = 1 in [[«?] == []] == [] else let y = 2 in true;"),
	})
}

func TestO1NamesTwiceAndMissing(t *testing.T) {
	check(t, []asked{
		of("f x", "def f(x, x) = [«?] == [];"),
		of("f x", "def f(x) = let x = 1 in fun(x) => [«?] == [];"),
		of("f x", "def x = 1; def f(x) = [«?] == [];"),
		of("f x y", "def f(x, , y) = [«?] == [];"),
		of("f", "def f() = [«?] == [];"),
		of("f", "def f(,) = [«?] == [];"),
		of("f", "def f = let = 1 in [«?] == [];"),
		of("f", "def f = fun(,) => [«?] == [];"),
		of("f g", "def f = «?; def = 1; use a.; use a.g as; def(x) = 2; def g = 1; use; use .g as;"),
		of("f x", "def f = «? + 1; def x = 1; def x = true;"), // the first one has it
		of("f", "def f = «? + 1; def x = true; def x = 1;"),
		of("f g", "def f = 1; def g = 2; def f = «? + 1;"),
		of("g", "def f = true; def g = 2; def f = «? + 1;"), // f would be the first one, not its own def
	})
}

func TestO1NamesAscendByTheirBytes(t *testing.T) {
	check(t, []asked{
		of("B _ a a0 aB aa b f g é λ Ж", "def f = «?; def é = 1; def b = 1; def a = 1; def Ж = 1; def B = 1; def aa = 1; def λ = 1; def _ = 1; def aB = 1; def a0 = 1; def g = 1;"),
		of("B a f x z é λ", "def f(z, é) = let a = 1 in fun(λ, B) => [«?] == []; def x = 1;"),
	})
}

func TestO1Uses(t *testing.T) {
	check(t, []asked{
		of("f x", "use b.x; def f = «?;", "pub def x = 1;"),
		of("f y", "use b.x as y; def f = «?;", "pub def x = 1;"),
		of("f x", "def f = «? + 1; use a.f as x;"),
		of("f", "use b.x; def f = «?;", "def x = 1;"),                      // it is hidden
		of("f", "use b.x; def f = «?;", "pub def y = 1;"),                  // there is none
		of("f", "use c.x; def f = «?;", "pub def x = 1;"),                  // of no file
		of("f", "use b.x; def f = «?;", "pub use a.x;"),                    // a ring
		of("f", "use b. as x; use .x as y; def f = «?;", "pub def x = 1;"), // what is missing
		of("f", "use b.x as ; def f = «?;", "pub def x = 1;"),              // its name is missing
		of("f", "use b.x; def f = «?; def x = 1;", "def x = 1;"),           // the second one is twice
		of("f x", "def x = 1; use b.x; def f = «?;", "def x = 1;"),
		of("f x", "use b.x; def x = true; def f = «? + 1;", "pub def x = 1;"),
		of("f", "use b.x; def x = 1; def f = «? + 1;", "pub def x = true;"),
		of("f x", "use b.x; def f(x) = [«?] == [];"), // a parameter has its name
		of("f x", "use b.x; def f = let x = 1 in «? + 1;", "def x = 1;"),
		of("f x", "use b.x; def f = «?;", "pub use c.y as x;", "pub def y = 1;"),
		of("f", "use b.x; def f = «?;", "pub use c.y as x;", "def y = 1;"),
		of("f g", "def f = «?; pub def g = 1;", "pub def x = 1;"), // other files' own items are none of this one's
		of("g x", "use b.x; def g = «? + 1;", "use a.h; pub def x = h; pub def y = 1;"),
	})
}

func TestO1OnlyNamesOfFittingTypes(t *testing.T) {
	ahead := "def n = 1; def b = true; def t = \"\"; def l = [1]; def o = []; def g(x) = x; def h(x, y) = x + y; def w = w; "
	check(t, []asked{
		of("f n w", ahead+"def f = 1 + «?;"),
		of("f n w", ahead+"def f = if b then 1 else «?;"),
		of("b w x", ahead+"def f(x) = if «? then x else x;"),
		of("f t w", ahead+"def f = «? ++ \"\";"),
		of("l o w", ahead+"def f = «? == [n];"),
		of("f o w", ahead+"def f = [«? == [b]];"),
		of("h w", ahead+"def f = «?(1, 2);"),
		of("g w", ahead+"def f = «?(b) == b;"),
		of("g w x", ahead+"def f(x) = if x == g then b else «?(b);"),
		of("b f g h l n o t w", ahead+"def f = [«?] == [];"),
		of("b f g h l n o t w", ahead+"def f = let y = «? in b;"),
	})
}

// The `?` stands in the value of a `let`: what is general may be of more than one type there.
func TestO1GeneralNames(t *testing.T) {
	let := "let u = «? in [u(1) == 1, u(\"\") == \"\"]; "
	check(t, []asked{
		of("id none", "def id(x) = x; def none = 1 + true; def one(x) = x + 1; def f(y) = "+let),
		of("v", "def f = let v = fun(x) => x in "+let),
		of("", "def f(p) = let v = p in "+let),
		of("w", "def f(p) = let w = fun(x) => let q = p in x in "+let),
		of("", "def f = (fun(v) => v)(fun(v) => "+let[:len(let)-2]+");"),
	})
}

// A name may make the def lead to others, lead to itself, or be of a group with others: then these are not general to each other.
func TestO1Groups(t *testing.T) {
	let := "let u = «? in [u(1) == 1, u(\"\") == \"\"]; "
	check(t, []asked{
		of("f", "def f = «? + 1;"),
		of("", "def f = [«?];"),
		of("f", "def f(x) = if true then x else «?(x);"),
		of("", "def f = let u = «? in u(1);"),
		of("f", "def f = «?; def g = [f];"),
		of("f g", "def f = «?; def g = f + 1;"),
		of("f g h", "def f = «?; def g = h; def h = f;"),
		of("f", "def f = «?; def g = [h]; def h = [f];"),
		of("f g", "def f = [«?] == []; def g = if f then 1 else 2;"),
		of("f h", "def f = «? + 1; def g = h == 1; def h = if g then f else f;"),
		of("f h", "def f = «? + 1; def g = f == 1; def h = let v = g in 2;"),
		of("g", "def f(y) = "+let+"def g(x) = x;"),
		of("", "def f(y) = "+let+"def g(x) = let v = f in x;"), // g leads to f
		of("", "def f(y) = "+let+"def g(x) = h(x); def h(x) = let v = f in x;"),
		of("", "use b.g; pub def f(y) = "+let, "use a.f; pub def g(x) = let v = f in x;"),
		of("g", "use b.g; pub def f(y) = "+let, "use a.f; pub def g(x) = x; def h = f;"),
		of("f g", "def f = [«?, g] == []; def g = [f] == [];"), // they are a group without it
		of("f g", "def f = [«?, true] == [g, f]; def g = f;"),
	})
}

// Of two that have a name the one further in counts.
func TestO1HiddenNames(t *testing.T) {
	check(t, []asked{
		of("x", "def x = true; def f = fun(x) => «? + 1;"),
		of("", "def x = 1; def f(x) = if x then «? + 1 else 0;"),
		of("x", "def f(x) = if x then let x = 1 in «? + 1 else 0;"),
		of("", "def f = let x = 1 in let x = true in [«? + 1];"),
		of("x", "def f = let x = true in let x = 1 in [«? + 1];"),
		of("x y", "def f(x, x) = let y = x + 1 in if y == x then [«? + 1] else [];"),
		of("f", "def f(f) = if f == 1 then «? + 1 else 2;"),
		of("x", "def f = let x = 1 in let y = (let x = true in x) in [«? + 1];"),
	})
}

func TestO1TwoHolesInOneDef(t *testing.T) {
	check(t, []asked{
		of("b y", "def f(x, y) = if «? then ? + 1 else x; def b = true; def n = 1;"),
		of("n x y", "def f(x, y) = if ? then «? + 1 else x; def b = true; def n = 1;"),
		of("b f n", "def f = [«?, ?] == []; def b = true; def n = 1;"),
		of("b f n", "def f = [?, «?] == []; def b = true; def n = 1;"),
	})
}

// Blanks stand around the name: it stays a name, whatever stands beside the `?`.
func TestO1NothingBetween(t *testing.T) {
	check(t, []asked{
		of("b", "def f = if«?then 1else 2; def b = true;"),
		of("f n", "def f=1-«?-1;def n=1;"),
		of("f n", "def f=-- so\n«?+{--}1;def n=1;"),
		of("f n", "def f = n*«?*n;def n=1;"),
		of("n x", "def f = let x=n in[«?+x];def n=1;"),
		of("f n", "def f=«?n;def n=1;"),
	})
}

// In the place of the `?` a name comes to stand where one was missing: it names something, and stands for nothing.
func TestO1NamesThatWereMissing(t *testing.T) {
	check(t, []asked{
		of("f g", "def f = let «? in 1; def g = \"\";"),
		of("g", "def f = let «? 5 in g + 1; def g = \"\";"),
		of("f g", "def f = let «? 5 in 1; def g = \"\";"),
		of("", "def f = let «? \"\" in 1 + true; def g = \"\";"),
		of("g", "def f(«?, y) = y + g; def g = \"\";"),
		of("f g", "def f(«?, y) = y + g; def g = 1;"),
		of("g", "def f = fun «? => y + g; def g = \"\";"),
		of("f", "def f(«?;"),
		of("f x", "def f(x, «?) = x;"),
		of("f x", "def f = fun(x, «?) => x + f(1, 2);"),
		of("f x", "def f(x) = fun(x, «?) => x;"),
	})
}

// The file has so many bytes more than the name, as one has blanks less than the `?`.
func TestO1TextsThatWouldBeTooLong(t *testing.T) {
	text := "def f = [«?] == []; def gg = 1; def hhh = let é = 2 in 3; "
	for more, want := range map[int]string{-5: "f gg hhh", -4: "f gg hhh", -3: "f gg", -2: "f", -1: "", 0: ""} {
		files, _, at := marked(t, text)
		files[0].Text += strings.Repeat(" ", api.MaxFile+more-len(files[0].Text))
		files = append(files, api.File{Name: "b", Text: strings.Repeat(" ", api.MaxFile)})
		if got := ask(t, files, 0, at); got != want {
			t.Errorf("%d bytes more: %s, want %s", more, got, want)
		}
		files[0].Text = strings.Replace(files[0].Text, "] == []", "+true]", 1) + " "
		if got := ask(t, files, 0, at); got != "ErrType" {
			t.Errorf("%d bytes more, without a type: %s", more, got)
		}
	}
}

// With a name an expression would have a type of too many parts: a list within lists, and what is in them.
func TestO1TypesThatWouldBeTooGreat(t *testing.T) {
	function := func(n int) string { return "fun(" + strings.Repeat("x,", n-3) + "y) => y" } // of n parts
	lists := func(n int, e string) string { return strings.Repeat("[", n) + e + strings.Repeat("]", n) }
	for n, want := range map[int]string{139: "f g", 140: "f g", 141: "f", 142: "f"} {
		check(t, []asked{
			of(want, "def g = "+function(n)+"; def f = "+lists(60, "«?")+" == [];"),
			of(want, "use b.g; def f = "+lists(60, "«?")+" == [];", "pub def g = "+function(n)+";"),
		})
	}
}

func TestO1FilesStayWhatTheyAre(t *testing.T) {
	files := filesOf("use b.x; def f(y) = «?;", "pub def x = 1;", "def z = ?;")
	files[0].Text = strings.Replace(files[0].Text, "«", "", 1)
	was := slices.Clone(files)
	behind := append(files, api.File{Name: "def", Text: "behind"}) // what lies behind the list's length is not looked at
	first, err := Complete(behind[:3], 0, 20)
	if err != nil || !slices.Equal(first, []string{"x", "y"}) {
		t.Fatalf("%v, %v", first, err)
	}
	first[0] = "other"
	second, _ := Complete(files, 0, 20)
	if !slices.Equal(second, []string{"x", "y"}) || !slices.Equal(files, was) || behind[3].Text != "behind" {
		t.Errorf("%v, %v", second, behind)
	}
}

func TestO1ManyAsk(t *testing.T) {
	files, file, at := marked(t, "use b.x; def f(y) = [«?] == []; def g = f;", "pub def x = 1;")
	var all sync.WaitGroup
	answers := make([][]string, 16)
	for i := range answers {
		all.Go(func() { answers[i], _ = Complete(files, file, at) })
	}
	all.Wait()
	for _, got := range answers {
		if !slices.Equal(got, []string{"f", "g", "x", "y"}) {
			t.Errorf("%v", got)
		}
	}
}
