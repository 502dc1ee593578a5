package change

import (
	"math"
	"strings"
	"testing"

	"amanuensis/api"
)

func TestCTheExamples(t *testing.T) {
	for _, c := range [][2]string{
		{rename(t, "y", "def f(«x, y) = let z = x in g(z + 1); def g(n) = f(n, 2);"), "ErrClash"},
		{rename(t, "w", "def f(«x, y) = let z = x in g(z + 1); def g(n) = f(n, 2);"), "def f(w, y) = let z = w in g(z + 1); def g(n) = f(n, 2);"},
		{extract(t, "h", "def f(x, y) = let z = x in g(«z + 1«); def g(n) = f(n, 2);"), "def h(z) = z + 1;\ndef f(x, y) = let z = x in g( h(z) ); def g(n) = f(n, 2);"},
		{inline(t, "def f(x, y) = let «z = x in g(z + 1); def g(n) = f(n, 2);"), "def f(x, y) = g((x) + 1); def g(n) = f(n, 2);"},
		{order(t, []int{1, 0}, "def «f(x, y) = let z = x in g(z + 1); def g(n) = f(n, 2);"), "def f(y, x) = let z = x in g(z + 1); def g(n) = f(2, n);"},
		{rename(t, "g", "def «f(x) = x + 1; def k = f(2);"), "def g(x) = x + 1; def k = g(2);"},
		{extract(t, "h", "def f(x) = x + 1; def k = «f(2)«;"), "def f(x) = x + 1; def h = f(2);\ndef k =  h ;"},
	} {
		if c[0] != c[1] {
			t.Errorf("%q, want %q", c[0], c[1])
		}
	}
}

// changing is one text that is changed, with marks, and what comes of it.
type changing struct{ text, want string }

func TestC2WhichName(t *testing.T) {
	for _, c := range []changing{
		{"def «long = long;", "def n = n;"},
		{"def lo«ng = long;", "def n = n;"},
		{"def long« = long;", "def n = n;"},
		{"def« long = long;", "ErrRange"},
		{"def long «= long;", "ErrRange"},
		{"def long = «long;", "def n = n;"},
		{"def long = long«;", "def n = n;"},
		{"def long = long;«", "ErrRange"},
		{"«def long = long;", "ErrRange"},
		{"def é«é = éé;", "def n = n;"},
		{"def a = b« ;", "ErrRange"},
		{"def a = 1; «a", "ErrRange"},
		{"a«; def a = 1;", "ErrRange"},
		{"def a = \"a«\";", "ErrRange"},
		{"def a = 1; -- «a", "ErrRange"},
		{"«", "ErrRange"},
		{"use a«.x; def x = 1;", "ErrRange"},
		{"use q«.x; def y = 1;", "ErrRange"},
		{"use a.q«; def y = 1;", "ErrRange"},
		{"use a.q as «y; def z = y;", "ErrRange"},
		{"use a.q as y; def z = «y;", "ErrRange"},
		{"def f(«x) = x;", "def f(n) = n;"},
		{"def f = let «x = x in x;", "def f = let n = x in n;"},
		{"def x = let x = «x in x;", "def n = let x = n in x;"},
		{"def f = fun(x, y) => «y;", "def f = fun(x, n) => n;"},
	} {
		if got := rename(t, "n", c.text); got != c.want {
			t.Errorf("%q: %q, want %q", c.text, got, c.want)
		}
	}
	for _, at := range []int{math.MinInt, -1, 11, 12, api.MaxFile + 1, math.MaxInt} {
		if p, err := Rename(filesOf("def a = 1;"), 0, at, "n"); number(t, err) != api.ErrRange || p != nil {
			t.Errorf("at %d: %v, %v", at, p, err)
		}
	}
}

func TestC2WhatIsNoName(t *testing.T) {
	for _, name := range []string{"", " ", "1", "1a", "a b", " a", "a ", "def", "true", "a-b", "?", "\"a\"", "a\n", "×", "a\xff", "\xff", strings.Repeat("n", 41), strings.Repeat("é", 21), "--", "{--}a"} {
		if got := rename(t, name, "def «f = f;"); got != "ErrName" {
			t.Errorf("%q: %q", name, got)
		}
		if got := extract(t, name, "def f = «1«;"); got != "ErrName" {
			t.Errorf("%q: %q", name, got)
		}
	}
	for _, name := range []string{"_", "a1", "Def", "é", "λ2", "я", strings.Repeat("n", 40), strings.Repeat("é", 20)} {
		if got := rename(t, name, "def «f = f;"); got != "def "+name+" = "+name+";" {
			t.Errorf("%q: %q", name, got)
		}
		if got := extract(t, name, "def f = «1«;"); got != "def "+name+" = 1;\ndef f =  "+name+" ;" {
			t.Errorf("%q: %q", name, got)
		}
	}
}

// Names of several files that stand for the same, and those that are called otherwise.
func TestC2AllFiles(t *testing.T) {
	for _, c := range []struct {
		name  string
		texts []string
		want  string
	}{
		{"n", []string{"pub def «f = 1;", "use a.f; def k = f;", "pub use b.k; def f = 2;"}, "pub def n = 1;|use a.n; def k = n;|pub use b.k; def f = 2;"},
		{"n", []string{"pub def f = 1;", "pub use a.f; def k = f;", "use b.f; def k = «f; def l(f) = f;"}, "pub def n = 1;|pub use a.n; def k = n;|use b.n; def k = n; def l(f) = f;"},
		{"n", []string{"pub def f = 1;", "use a.f as g; def k = «g;"}, "pub def n = 1;|use a.n as g; def k = g;"},
		{"n", []string{"pub def f = 1;", "use a.f as «g; def k = g;"}, "pub def n = 1;|use a.n as g; def k = g;"},
		{"n", []string{"pub def f = 1;", "use a.«f as g; def k = g;"}, "pub def n = 1;|use a.n as g; def k = g;"},
		{"n", []string{"pub def f = 1;", "pub use a.f as g;", "use b.g as f; def k = «f;"}, "pub def n = 1;|pub use a.n as g;|use b.g as n; def k = n;"},
		{"n", []string{"pub def f = 1;", "use a.f as f; def k = «f;"}, "pub def n = 1;|use a.n as n; def k = n;"},
		{"g", []string{"pub def «f = 1;", "use a.f as g; def k = g;"}, "pub def g = 1;|use a.g as g; def k = g;"},
		{"n", []string{"pub def «a = a;", "use a.a as b; def k = b;"}, "pub def n = n;|use a.n as b; def k = b;"},
	} {
		if got := rename(t, c.name, c.texts...); got != c.want {
			t.Errorf("%q: %q, want %q", c.texts, got, c.want)
		}
	}
}

// Names that would stand for something else, and others to which something else would be wrong.
func TestC2Clashes(t *testing.T) {
	for _, c := range []struct {
		name  string
		texts []string
		want  string
	}{
		{"g", []string{"def «f = 1; def g = 2;"}, "ErrClash"},                        // the second one would be twice
		{"f", []string{"def f = 1; def «g = 2;"}, "ErrClash"},                        // this one would
		{"n", []string{"def «f = 1; def f = 2;"}, "ErrClash"},                        // the second one would be twice no longer
		{"n", []string{"def f = 1; def «f = 2;"}, "ErrClash"},                        // nor would this one
		{"y", []string{"def f(«x, y) = x;"}, "ErrClash"},                             // twice in an NParams
		{"n", []string{"def f(«x, x) = x;"}, "ErrClash"},                             // twice no longer
		{"n", []string{"def f(x, «x) = x;"}, "ErrClash"},                             // nor this one
		{"y", []string{"def f(«x) = let y = 1 in x;"}, "ErrClash"},                   // it would be caught
		{"y", []string{"def f(«x) = let y = x in 1;"}, "def f(y) = let y = y in 1;"}, // not there
		{"y", []string{"def f(«x) = let y = x in y;"}, "def f(y) = let y = y in y;"},
		{"y", []string{"def f(«x) = let y = 1 in y;"}, "def f(y) = let y = 1 in y;"},
		{"x", []string{"def f(x) = let «y = 1 in x;"}, "ErrClash"}, // it would catch
		{"x", []string{"def f(x) = let «y = x in y;"}, "def f(x) = let x = x in x;"},
		{"f", []string{"def f(«x) = f(x);"}, "ErrClash"},
		{"f", []string{"def f(«x) = x;"}, "def f(f) = f;"},
		{"g", []string{"def f(«x) = g;"}, "ErrClash"}, // what stands for nothing would stand for something
		{"g", []string{"def «f = g;"}, "ErrClash"},
		{"g", []string{"def «f = 1;", "use a.g;"}, "ErrClash"},                   // ErrName would be ErrHidden
		{"g", []string{"pub def «f = 1;", "use a.g;"}, "ErrClash"},               // it would be found
		{"n", []string{"def «f = 1;", "use a.f;"}, "ErrClash"},                   // ErrHidden would be ErrName
		{"g", []string{"pub def «f = 1;", "use a.f; def g = 2;"}, "ErrClash"},    // twice in another file
		{"g", []string{"pub def «f = 1;", "use a.f; def k(g) = f;"}, "ErrClash"}, // caught in another file
		{"g", []string{"pub def «f = 1;", "use a.f as h; def k(g) = h;"}, "pub def g = 1;|use a.g as h; def k(g) = h;"},
		{"b", []string{"pub def «f = 1;", "use a.f; use b.f as g;"}, "pub def b = 1;|use a.b; use b.b as g;"},
		{"n", []string{"pub def «f = 1;", "use a.f;", "use b.f;"}, "ErrClash"},    // ErrHidden would be ErrName
		{"a", []string{"pub def «f = 1;", "use a.f;"}, "pub def a = 1;|use a.a;"}, // names of files are others
		{"f", []string{"pub def «f = 1; def f = 2;", "use a.f; use a.f;"}, "pub def f = 1; def f = 2;|use a.f; use a.f;"},
	} {
		if got := rename(t, c.name, c.texts...); got != c.want {
			t.Errorf("%q to %s: %q, want %q", c.texts, c.name, got, c.want)
		}
	}
}

// What is wrong around a name does not matter, if it stays so.
func TestC2WithWrongText(t *testing.T) {
	for _, c := range []changing{
		{"1x def «x = (x + ; x y", "1x def n = (n + ; x y"},
		{"def f(«x, , ) = [x ? x", "def f(n, , ) = [n ? x"},
		{"def f = let «x 1x;", "def f = let n 1n;"},
		{"def f(\xc3«x\xa9) = \xc3x\xa9", "ErrRange"}, // a TBad ends the NParams
		{"\xc3def «x\xa9= x\xa9", "\xc3def n\xa9= x\xa9"},
		{"def x = 1x use a.«x", "def n = 1x use a.n"},
		{"use a.«x def x = 1x", "ErrRange"},
	} {
		if got := rename(t, "n", c.text); got != c.want {
			t.Errorf("%q: %q, want %q", c.text, got, c.want)
		}
	}
}

func TestC3WhichPieces(t *testing.T) {
	for _, c := range []changing{
		{"def f = «12«;", "def h = 12;\ndef f =  h ;"},
		{"def f =«12«;", "def h = 12;\ndef f = h ;"},
		{"def f =« 12«;", "ErrRange"},
		{"def f = «12 «;", "ErrRange"},
		{"def f = «1«2;", "ErrRange"},
		{"def f = 1«2«;", "ErrRange"},
		{"def f = ««12;", "ErrRange"},
		{"def f = {--}«12«--;\n;", "def h = 12;\ndef f = {--} h --;\n;"},
		{"def f = «{--}12«--;\n;", "ErrRange"},
		{"def f = {--}«12--\n«;", "ErrRange"},
		{"def f = «a + {--} b«; def a = 1; def b = 2;", "def h = a + {--} b;\ndef f =  h ; def a = 1; def b = 2;"},
		{"def f = «1 + 2« + 3;", "def h = 1 + 2;\ndef f =  h  + 3;"},
		{"def f = 1 + «2 + 3«;", "ErrRange"},
		{"def f = 1 + «2«;", "def h = 2;\ndef f = 1 +  h ;"},
		{"def f = 1 + «2 * 3«;", "def h = 2 * 3;\ndef f = 1 +  h ;"},
		{"def f = «1 + 2« * 3;", "ErrRange"},
		{"def f = «1 == 2«;", "def h = 1 == 2;\ndef f =  h ;"},
		{"def f = («1«);", "def h = 1;\ndef f = ( h );"},
		{"def f = «(1)«;", "def h = (1);\ndef f =  h ;"},
		{"def f = [1, «[]«];", "def h = [];\ndef f = [1,  h ];"},
		{"def f = [«1, 2«];", "ErrRange"},
		{"def f() = «f«();", "def h = f;\ndef f() =  h ();"},
		{"def f() = f«()«;", "ErrRange"},
		{"def f() = «f()«();", "def h = f();\ndef f() =  h ();"},
		{"def f() = «f()()«;", "def h = f()();\ndef f() =  h ;"},
		{"def f = if «true« then 1 else 2;", "def h = true;\ndef f = if  h  then 1 else 2;"},
		{"def f = «if true then 1 else 2«;", "def h = if true then 1 else 2;\ndef f =  h ;"},
		{"def f = fun«(x)« => x;", "ErrRange"},
		{"def f = «fun(x) => x«;", "def h = fun(x) => x;\ndef f =  h ;"},
		{"def f = let «x« = 1 in x;", "ErrRange"},
		{"def f = let x = «\"é\"« in x;", "def h = \"é\";\ndef f = let x =  h  in x;"},
		{"def f«(x)« = x;", "ErrRange"},
		{"def «f« = 1;", "ErrRange"},
		{"«def f = 1;«", "ErrRange"},
		{"use a.«f«; def f = 1;", "ErrRange"},
		{"«1«; def f = 1;", "ErrRange"},
		{"def f = 1; «x«", "ErrRange"},
		{"def f =««;", "ErrRange"},
		{"««def f =;", "ErrRange"},
		{"««", "ErrRange"},
		{"1; -- so\n pub\ndef f = «1«;", "1; -- so\n def h = 1;\npub\ndef f =  h ;"},
		{"def g = 1{--}def f = «2«;", "def g = 1{--}def h = 2;\ndef f =  h ;"},
		{"def f = «1«; def g = 1;", "def h = 1;\ndef f =  h ; def g = 1;"},
		{"def f = 1; def g = «1«;", "def f = 1; def h = 1;\ndef g =  h ;"},
		{"pub 1; pub x = «1«;", "pub 1; def h = 1;\npub x =  h ;"},
	} {
		if got := extract(t, "h", c.text); got != c.want {
			t.Errorf("%q: %q, want %q", c.text, got, c.want)
		}
	}
	numbers := []int{math.MinInt, -1, 0, 1, 8, 9, 10, 11, 12, api.MaxFile, math.MaxInt}
	for _, from := range numbers {
		for _, to := range numbers {
			p, err := Extract(filesOf("def f = 1;"), 0, from, to, "h")
			if want := from == 8 && to == 9; (number(t, err) == api.OK) != want || err != nil && number(t, err) != api.ErrRange || (p != nil) != want {
				t.Errorf("%d to %d: %v, %v", from, to, p, err)
			}
		}
	}
}

func TestC3Holes(t *testing.T) {
	for _, c := range []changing{
		{"def f = «?«;", "ErrHole"},
		{"def f = «[1, (2 + ?)]«;", "ErrHole"},
		{"def f = [«1«, (2 + ?)];", "def h = 1;\ndef f = [ h , (2 + ?)];"},
		{"def f = [?, («2«", "def h = 2;\ndef f = [?, ( h "},
		{"def f = «x«;", "ErrHole"},
		{"def f = «fun(x) => y«;", "ErrHole"},
		{"use a.q; def f = «[q]«;", "ErrHole"},
		{"use a.f as q; def f = «[q]«;", "use a.f as q; def h = [q];\ndef f =  h ;"},
		{"def f = «1 +«;", "ErrHole"},
		{"def f = «1« +;", "def h = 1;\ndef f =  h  +;"},
		{"def f = «+ 1«;", "ErrHole"},
		{"def f = «(1«;", "ErrHole"},
		{"def f = «[1,«;", "ErrHole"},
		{"def f = «[1, ]«;", "ErrHole"},
		{"def f = «let = 1 in 2«;", "ErrHole"},
		{"def f = «let x 1 in 2«;", "ErrHole"},
		{"def f = «let x = 1 2«;", "ErrHole"},
		{"def f = «fun(x, ) => 1«;", "ErrHole"},
		{"def f = «fun(x => 1«;", "ErrHole"},
		{"def f = «fun(x) 1«;", "ErrHole"},
		{"def f = «if 1 2 else 3«;", "ErrHole"},
		{"def f = «f(1«;", "ErrHole"},
		{"def f = «f(1, )«;", "ErrHole"},
		{"def f = «f()«;", "def h = f();\ndef f =  h ;"},
		{"def = «1«;", "def h = 1;\ndef =  h ;"},
		{"def f(x, ) «1«", "def h = 1;\ndef f(x, )  h "},
	} {
		if got := extract(t, "h", c.text); got != c.want {
			t.Errorf("%q: %q, want %q", c.text, got, c.want)
		}
	}
}

func TestC3Names(t *testing.T) {
	for _, c := range []struct{ name, text, want string }{
		{"f", "def f = «1«;", "ErrTwice"},
		{"g", "def f = «1«; def g = 2; def g = 3;", "ErrTwice"},
		{"g", "def f = «1«; use q.g;", "ErrTwice"},
		{"g", "def f = «1«; use g.h;", "def g = 1;\ndef f =  g ; use g.h;"},
		{"h", "def f = «1«; use a.g as h;", "ErrTwice"},
		{"g", "def f = «1«; use a.g as h;", "def g = 1;\ndef f =  g ; use a.g as h;"},
		{"g", "def f = «1«; use a.g as;", "def g = 1;\ndef f =  g ; use a.g as;"},
		{"a", "def f = «1«;", "def a = 1;\ndef f =  a ;"},
		{"x", "def f(x) = «1«;", "ErrClash"},
		{"x", "def f(y, x) = [«1«];", "ErrClash"},
		{"x", "def f = let x = «1« in x;", "def x = 1;\ndef f = let x =  x  in x;"},
		{"x", "def f = let x = 1 in «2«;", "ErrClash"},
		{"x", "def f = let x = 1 in let y = [«2«] in y;", "ErrClash"},
		{"x", "def f = let y = let x = 1 in x in «2«;", "def x = 2;\ndef f = let y = let x = 1 in x in  x ;"},
		{"x", "def f = let y = 1 in let z = «2« in let x = 3 in x;", "def x = 2;\ndef f = let y = 1 in let z =  x  in let x = 3 in x;"},
		{"x", "def f = fun(x) => «2«;", "ErrClash"},
		{"x", "def f = [fun(x) => 1, «2«];", "def x = 2;\ndef f = [fun(x) => 1,  x ];"},
		{"x", "def f = «fun(x) => let x = x in x«;", "def x = fun(x) => let x = x in x;\ndef f =  x ;"},
		{"x", "def f = «1«; def g(x) = x;", "def x = 1;\ndef f =  x ; def g(x) = x;"},
		{"x", "def f = [«1«, x];", "def x = 1;\ndef f = [ x , x];"},
	} {
		if got := extract(t, c.name, c.text); got != c.want {
			t.Errorf("%q to %s: %q, want %q", c.text, c.name, got, c.want)
		}
	}
	if got, want := extract(t, "g", "def f = «1«;", "def g = 1;"), "def g = 1;\ndef f =  g ;|def g = 1;"; got != want {
		t.Errorf("%q, want %q", got, want)
	}
}

func TestC3OuterNames(t *testing.T) {
	for _, c := range []changing{
		{"def f(x, y) = «y + x«;", "def h(y, x) = y + x;\ndef f(x, y) =  h(y, x) ;"},
		{"def f(x, y) = «[x, y, x, y, x]«;", "def h(x, y) = [x, y, x, y, x];\ndef f(x, y) =  h(x, y) ;"},
		{"def f(x, y) = «1«;", "def h = 1;\ndef f(x, y) =  h ;"},
		{"def f(x) = «fun(y) => [y, x]«;", "def h(x) = fun(y) => [y, x];\ndef f(x) =  h(x) ;"},
		{"def f(x) = «fun(x) => x«;", "def h = fun(x) => x;\ndef f(x) =  h ;"},
		{"def f(x) = «let x = x in x«;", "def h(x) = let x = x in x;\ndef f(x) =  h(x) ;"},
		{"def f(x) = let y = 1 in fun(z) => «[f, z, g, y, x]«; def g = 1;", "def h(z, y, x) = [f, z, g, y, x];\ndef f(x) = let y = 1 in fun(z) =>  h(z, y, x) ; def g = 1;"},
		{"def f(x) = let x = 1 in «x«;", "def h(x) = x;\ndef f(x) = let x = 1 in  h(x) ;"},
		{"def f(x) = let x = «x« in x;", "def h(x) = x;\ndef f(x) = let x =  h(x)  in x;"},
		{"def f(x, x) = «x«;", "def h(x) = x;\ndef f(x, x) =  h(x) ;"},
		{"def x = «x«;", "def h = x;\ndef x =  h ;"},
		{"def x = let y = «x« in y;", "def h = x;\ndef x = let y =  h  in y;"},
		{"def f(é) = «é -- so\n+ {--} é«;", "def h(é) = é -- so\n+ {--} é;\ndef f(é) =  h(é) ;"},
	} {
		if got := extract(t, "h", c.text); got != c.want {
			t.Errorf("%q: %q, want %q", c.text, got, c.want)
		}
	}
	if got, want := extract(t, "h", "pub def g = 1;", "use a.g as k; def f(x) = «[k, x]«;"), "pub def g = 1;|use a.g as k; def h(x) = [k, x];\ndef f(x) =  h(x) ;"; got != want {
		t.Errorf("%q, want %q", got, want)
	}
	// a name of another file may stand where a name of this one stands
	if got, want := extract(t, "h", "pub def g = 1;", "use a.g; def f«(x« ) = [g, x];"), "ErrRange"; got != want {
		t.Errorf("%q, want %q", got, want)
	}
	if got, want := extract(t, "h", "pub def gggg = 1;", "use a.gggg as x; def f = «[x]«;"), "pub def gggg = 1;|use a.gggg as x; def h = [x];\ndef f =  h ;"; got != want {
		t.Errorf("%q, want %q", got, want)
	}
}

func TestC4WhichLet(t *testing.T) {
	for _, c := range []changing{
		{"def f = let «long = 1 in long;", "def f = (1);"},
		{"def f = let lo«ng = 1 in long;", "def f = (1);"},
		{"def f = let long« = 1 in long;", "def f = (1);"},
		{"def f = let« long = 1 in long;", "ErrRange"},
		{"def f = «let long = 1 in long;", "ErrRange"},
		{"def f = let long «= 1 in long;", "ErrRange"},
		{"def f = let long = 1 in «long;", "ErrRange"},
		{"def f« = let long = 1 in long;", "ErrRange"},
		{"def f(x«) = let long = 1 in long;", "ErrRange"},
		{"use a.«f; def f = let long = 1 in long;", "ErrRange"},
		{"def f = let «= 1 in 2;", "ErrRange"},
		{"let «x = 1 in 2;", "ErrRange"},
		{"def f = let x = 1 in let «x = 2 in x;", "def f = let x = 1 in (2);"},
		{"def f = let «x = 1 in let x = 2 in x;", "def f = let x = 2 in x;"},
		{"def f = let «x = 1 in let x = x in x;", "def f = let x = (1) in x;"},
		{"def f = let x = let «y = 1 in y in x;", "def f = let x = (1) in x;"},
		{"def f = [fun(z) => if let «y = 1 in y then 1 else 2];", "def f = [fun(z) => if (1) then 1 else 2];"},
		{"def g = let x = 1 in x; def f = let «x = 2 in x;", "def g = let x = 1 in x; def f = (2);"},
	} {
		if got := inline(t, c.text); got != c.want {
			t.Errorf("%q: %q, want %q", c.text, got, c.want)
		}
	}
	for _, at := range []int{math.MinInt, -1, 0, 100, math.MaxInt} {
		if p, err := Inline(filesOf("def f = let x = 1 in x;"), 0, at); number(t, err) != api.ErrRange || p != nil {
			t.Errorf("at %d: %v, %v", at, p, err)
		}
	}
}

func TestC4WhatIsPlain(t *testing.T) {
	for _, plain := range []string{"1", "007", `"é\n"`, "true", "false", "fun(x) => x", "fun() => g(1)", "fun(x, x) => [x, k]", "x", "z", "g", "f", "(1)", "((x))", "( fun(x) => x )", "(g)", "(\n-- so\n1)"} {
		text := "def f(x) = let z = 1 in let «y = " + plain + " in [y, 2]; def g(x) = 1; def k = 1;"
		if got, want := inline(t, text), "def f(x) = let z = 1 in [("+plain+"), 2]; def g(x) = 1; def k = 1;"; got != want {
			t.Errorf("%s: %q, want %q", plain, got, want)
		}
	}
	for _, other := range []string{"", "?", "nothing", "k", "(k)", "1 + 1", "[]", "[1]", "g(1)", "fun() => 1 + (", "if true then 1 else 2", "let w = 1 in w", "(1 + 1)", "(?)", "()", "((nothing))", "(g)(1)", "1 == 1"} {
		want := "ErrType"
		if strings.HasPrefix(other, "fun") {
			want = "ErrHole" // it is plain, but something is missing in it
		}
		text := "def f(x) = let «y = " + other + " in [y, 2]; def g(x) = 1; def k = 1;"
		if got := inline(t, text); got != want {
			t.Errorf("%s: %q, want %s", other, got, want)
		}
	}
	for _, c := range []struct {
		texts []string
		want  string
	}{
		{[]string{"pub def g(x) = 1; pub def k = 1;", "use a.g as i; def f = let «y = i in y;"}, "pub def g(x) = 1; pub def k = 1;|use a.g as i; def f = (i);"},
		{[]string{"pub def g(x) = 1; pub def k = 1;", "use a.k as i; def f = let «y = i in y;"}, "ErrType"},
		{[]string{"pub def g(x) = 1; pub def k = 1;", "use a.q as i; def f = let «y = i in y;"}, "ErrType"},
		{[]string{"pub def g(x) = 1;", "def g = 1; def f = let «y = g in y;"}, "ErrType"},
		{[]string{"def g() = 1; def f = let «y = g in y;"}, "def g() = 1; def f = (g);"},
		{[]string{"def g( = 1; def f = let «y = g in y;"}, "def g( = 1; def f = (g);"},
		{[]string{"def g = 1; def g(x) = 2; def f = let «y = g in y;"}, "ErrType"},
		{[]string{"def g(x) = 1; def g = 2; def f = let «y = g in y;"}, "def g(x) = 1; def g = 2; def f = (g);"},
	} {
		if got := inline(t, c.texts...); got != c.want {
			t.Errorf("%q: %q, want %q", c.texts, got, c.want)
		}
	}
}

func TestC4Holes(t *testing.T) {
	for _, c := range []changing{
		{"def f = let «x = (1 in x;", "ErrHole"},
		{"def f = let «x = fun(y, ) => 1 in x;", "ErrHole"},
		{"def f = let «x = fun(y) => ? in x;", "ErrHole"},
		{"def f = let «x = fun(y) => [z] in x;", "ErrHole"},
		{"def f = let «x = fun(y) 1 in x;", "ErrHole"},
		{"def f = let «x = (fun() => let = 1 in 2) in x;", "ErrHole"},
		{"def f = let «x = 1 in ;", "ErrHole"},
		{"def f = let «x = 1;", "ErrHole"},
		{"def f = [let «x = 1 in ];", "ErrHole"},
		{"def f = let «x = 1 in ?;", "def f = ?;"},
		{"def f = let «x = 1 in [x, ?, y, ];", "def f = [(1), ?, y, ];"},
		{"def f = let «x = 1 in x + ;", "def f = (1) + ;"},
		{"def f = let «x = 1 in + x;", "def f = + (1);"},
		{"def f = let «x 1 in x;", "def f = (1);"},
		{"def f = let «x = 1 x;", "def f = (1);"},
		{"def f = [let «x 1 [x, x", "def f = [[(1), (1)"},
		{"def let «x = 1 in x", "def (1)"},
	} {
		if got := inline(t, c.text); got != c.want {
			t.Errorf("%q: %q, want %q", c.text, got, c.want)
		}
	}
}

func TestC4Clashes(t *testing.T) {
	for _, c := range []changing{
		{"def f(y) = let «x = y in let y = 2 in x;", "ErrClash"},
		{"def f(y) = let «x = y in let y = x in y;", "def f(y) = let y = (y) in y;"},
		{"def f(y) = let «x = y in let y = 2 in y;", "def f(y) = let y = 2 in y;"},
		{"def f(y) = let «x = y in fun(y) => x;", "ErrClash"},
		{"def f(y) = let «x = y in fun(z, y) => [1, (x)];", "ErrClash"},
		{"def f(y) = let «x = y in fun(y) => fun(z) => x;", "ErrClash"},
		{"def f(y) = let «x = y in fun(y) => let z = x in z;", "ErrClash"},
		{"def f(y) = let «x = y in let y = 1 in let z = 2 in x;", "ErrClash"},
		{"def f = let «x = g in fun(g) => x; def g(n) = 1;", "ErrClash"},
		{"def f(y) = let «x = y in [fun(y) => y, x];", "def f(y) = [fun(y) => y, (y)];"},
		{"def f(y) = let «x = y in [fun(y) => 1, fun(z) => x, fun(y) => x];", "ErrClash"},
		{"def f(y) = let «x = fun(y) => y in fun(y) => x;", "def f(y) = fun(y) => (fun(y) => y);"},
		{"def f(y) = let «x = fun(z) => y in fun(z) => x;", "def f(y) = fun(z) => (fun(z) => y);"},
		{"def f(y) = let «x = fun(z) => [z, y] in fun(y) => x;", "ErrClash"},
		{"def f(y) = let «x = f in fun(f) => x;", "ErrClash"},
		{"def f(y) = let «x = f in let f = f in x;", "ErrClash"},
		{"def f(y) = let «x = f in let f = x in f;", "def f(y) = let f = (f) in f;"},
		{"def f(y) = let «x = 1 in fun(y) => x;", "def f(y) = fun(y) => (1);"},
		{"def f(x) = let «x = x in [x, x];", "def f(x) = [(x), (x)];"},
		{"def f(x) = let «x = x in let x = x in x;", "def f(x) = let x = (x) in x;"},
		{"def f(x) = let «x = fun(z) => x in fun(x) => x;", "def f(x) = fun(x) => x;"},
		{"def f(y) = let «x = y in let x = 1 in fun(y) => x;", "def f(y) = let x = 1 in fun(y) => x;"},
		{"def f(y, x) = let «z = fun(k) => [y, x] in let a = z in let x = a in 1;", "def f(y, x) = let a = (fun(k) => [y, x]) in let x = a in 1;"},
		{"def f(y, x) = let «z = fun(k) => [y, x] in let a = z in let x = z in [a, z];", "ErrClash"},
	} {
		if got := inline(t, c.text); got != c.want {
			t.Errorf("%q: %q, want %q", c.text, got, c.want)
		}
	}
}

// Names of another file, of the same places: they stand for something else.
func TestC4PlacesOfAnotherFile(t *testing.T) {
	texts := func(blanks int, text string) []string {
		return []string{strings.Repeat(" ", blanks) + "pub def g(n) = 1;", text}
	}
	for _, c := range []struct {
		texts []string
		want  string
	}{
		{texts(13, "use a.g; def f = let «y = 1 in [g, y];"), "|use a.g; def f = [g, (1)];"}, // where y is named
		{texts(17, "use a.g; def f = let «y = g in fun(g) => y;"), "ErrClash"},               // where the value stands
		{texts(17, "use a.g; def f = let «y = g in fun(k) => y;"), "|use a.g; def f = fun(k) => (g);"},
	} {
		got := inline(t, c.texts...)
		if _, behind, ok := strings.Cut(got, "|"); ok {
			got = "|" + behind
		}
		if got != c.want {
			t.Errorf("%q: %q, want %q", c.texts, got, c.want)
		}
	}
}

// Spaces and remarks: those in the value, and in the second expression, stay; those ahead of it go.
func TestC4Texts(t *testing.T) {
	for _, c := range []changing{
		{"def f =  let «x = 1 in\n -- so\n x ;", "def f =  (1) ;"},
		{"def f ={--}let {--} «x{--}={--}( --\n1 ){--}in{--}x{--}+ {--}x{--};", "def f ={--}(( --\n1 )){--}+ {--}(( --\n1 )){--};"},
		{"def f = (let «x = true in(x));", "def f = (((true)));"},
		{"def f = let «x = \"é\" in x++x;", "def f = (\"é\")++(\"é\");"},
		{"def f = let «x = 1 in 2;", "def f = 2;"},
		{"def f = let «x = 1 in let y = x in [x, y, x(x)];", "def f = let y = (1) in [(1), y, (1)((1))];"},
		{"def f(z) = let «x = z in if x then x else fun(y) => x;", "def f(z) = if (z) then (z) else fun(y) => (z);"},
		{"def f = let «long = 1 in [long, long];", "def f = [(1), (1)];"},
	} {
		if got := inline(t, c.text); got != c.want {
			t.Errorf("%q: %q, want %q", c.text, got, c.want)
		}
	}
}

func TestC5WhichDefAndOrder(t *testing.T) {
	for _, c := range []struct {
		order []int
		texts []string
		want  string
	}{
		{[]int{1, 0}, []string{"def «long(x, y) = 1;"}, "def long(y, x) = 1;"},
		{[]int{1, 0}, []string{"def lo«ng(x, y) = 1;"}, "def long(y, x) = 1;"},
		{[]int{1, 0}, []string{"def long«(x, y) = 1;"}, "def long(y, x) = 1;"},
		{[]int{1, 0}, []string{"def« long(x, y) = 1;"}, "ErrRange"},
		{[]int{1, 0}, []string{"def long(«x, y) = 1;"}, "ErrRange"},
		{[]int{1, 0}, []string{"def f(x, y) = «f(1, 2);"}, "def f(y, x) = f(2, 1);"},
		{[]int{1, 0}, []string{"pub def f(x, y) = 1;", "use a.«f as g; def k = g(1, 2);"}, "pub def f(y, x) = 1;|use a.f as g; def k = g(2, 1);"},
		{[]int{1, 0}, []string{"pub def f(x, y) = 1;", "use a.f as «g; def k = g(1, 2);"}, "pub def f(y, x) = 1;|use a.f as g; def k = g(2, 1);"},
		{[]int{1, 0}, []string{"pub def f(x, y) = 1;", "use «a.f as g; def k = g(1, 2);"}, "ErrRange"},
		{[]int{1, 0}, []string{"pub def f(x, y) = 1;", "use a.f as g; def k = «g(1, 2);"}, "pub def f(y, x) = 1;|use a.f as g; def k = g(2, 1);"},
		{[]int{1, 0}, []string{"def f = let «g = fun(x, y) => 1 in g(1, 2);"}, "ErrRange"},
		{[]int{1, 0}, []string{"def k = «g(1, 2);"}, "ErrRange"},
		{nil, []string{"def «f = 1;"}, "ErrRange"},
		{nil, []string{"def «f() = 1;"}, "def f() = 1;"},
		{[]int{0}, []string{"def «f() = 1;"}, "ErrRange"},
		{[]int{0}, []string{"def «f = 1;"}, "ErrRange"},
		{[]int{0}, []string{"def «f(x) = f(1);"}, "def f(x) = f(1);"},
		{nil, []string{"def «f(x) = 1;"}, "ErrRange"},
		{[]int{1}, []string{"def «f(x) = 1;"}, "ErrRange"},
		{[]int{-1}, []string{"def «f(x) = 1;"}, "ErrRange"},
		{[]int{0, 0}, []string{"def «f(x, y) = 1;"}, "ErrRange"},
		{[]int{0, 2}, []string{"def «f(x, y) = 1;"}, "ErrRange"},
		{[]int{0}, []string{"def «f(x, y) = 1;"}, "ErrRange"},
		{[]int{0, 1, 2}, []string{"def «f(x, y) = 1;"}, "ErrRange"},
		{[]int{math.MinInt, math.MaxInt}, []string{"def «f(x, y) = 1;"}, "ErrRange"},
		{[]int{0, math.MaxInt}, []string{"def «f(x, y) = 1;"}, "ErrRange"},
		{[]int{1, 0}, []string{"def f(x, y) = 1; def «f(a, b) = f(1, 2);"}, "def f(x, y) = 1; def f(b, a) = f(1, 2);"},
		{[]int{1, 0}, []string{"def «f(x, y) = 1; def f(a, b) = f(1, 2);"}, "def f(y, x) = 1; def f(a, b) = f(2, 1);"},
		{[]int{2, 0, 1}, []string{"def «f(x, y, z) = f(1, 2, 3);"}, "def f(z, x, y) = f(3, 1, 2);"},
		{[]int{1, 0}, []string{"def «f(x, y = x;"}, "def f(y, x = x;"},
	} {
		if got := order(t, c.order, c.texts...); got != c.want {
			t.Errorf("%q, %v: %q, want %q", c.texts, c.order, got, c.want)
		}
	}
	for _, at := range []int{math.MinInt, -1, 100, math.MaxInt} {
		if p, err := Order(filesOf("def f(x) = 1;"), 0, at, []int{0}); number(t, err) != api.ErrRange || p != nil {
			t.Errorf("at %d: %v, %v", at, p, err)
		}
	}
}

func TestC5NamesAndCalls(t *testing.T) {
	for _, c := range []changing{
		{"def «f(x, ) = 1;", "ErrHole"},
		{"def «f(, y) = 1;", "ErrHole"},
		{"def «f(x, x) = 1;", "ErrTwice"},
		{"def «f(x, y) = f;", "ErrClash"},
		{"def «f(x, y) = (f)(1, 2);", "ErrClash"},
		{"def «f(x, y) = f(1);", "ErrClash"},
		{"def «f(x, y) = f();", "ErrClash"},
		{"def «f(x, y) = f(1, 2, 3);", "ErrClash"},
		{"def «f(x, y) = f(1, 2)(3);", "def f(y, x) = f(2, 1)(3);"},
		{"def «f(x, y) = f(1, 2)(3, 4);", "def f(y, x) = f(2, 1)(3, 4);"},
		{"def «f(x, y) = f(1)(3, 4);", "ErrClash"},
		{"def «f(x, y) = f(1, f);", "ErrClash"},
		{"def «f(x, y) = f(1, f(2));", "ErrClash"},
		{"def «f(x, y) = g(1, f); def g(x, y) = 1;", "ErrClash"},
		{"def «f(x, y) = g(1, 2); def g(x, y) = 1;", "def f(y, x) = g(1, 2); def g(x, y) = 1;"},
		{"def «f(x, y) = fun(f) => f(1);", "def f(y, x) = fun(f) => f(1);"},
		{"def «f(x, y) = let f = 1 in [f, f(1, 2)];", "def f(y, x) = let f = 1 in [f, f(1, 2)];"},
		{"def «f(x, y) = f(1, );", "ErrHole"},
		{"def «f(x, y) = f(, 2);", "ErrHole"},
		{"def «f(x, y) = f(,;", "ErrHole"},
		{"def «f(x, y) = f(1 + , 2);", "def f(y, x) = f(2 , 1 +);"},
		{"def «f(x, y) = f(?, [);", "def f(y, x) = f([, ?);"},
		{"def «f(x, y) = f(1, 2;", "def f(y, x) = f(2, 1;"},
		{"def «f(x, y) = [f(1, 2), [f(3, 4)], let z = f(5, 6) in f(z, 7)];", "def f(y, x) = [f(2, 1), [f(4, 3)], let z = f(6, 5) in f(7, z)];"},
		{"def «f(x, y) = f(f(1, 2), f(f(3, 4), 5));", "def f(y, x) = f(f(5, f(4, 3)), f(2, 1));"},
		{"def «f(x, y) = f(g(f(1, 2)), [f(3, 4)]); def g(x) = f(5, x);", "def f(y, x) = f([f(4, 3)], g(f(2, 1))); def g(x) = f(x, 5);"},
		{"def g = f(1, 2); def «f(x, y) = 1; def k = f(3, 4);", "def g = f(2, 1); def f(y, x) = 1; def k = f(4, 3);"},
		{"def «f( x{--}, -- so\n longer ) = f( 1 + {--} 2{--}, -- so\n \"é\" );", "def f( longer{--}, -- so\n x ) = f( \"é\"{--}, -- so\n 1 + {--} 2 );"},
		{"f(1); def «f(x, y) = 1; f", "f(1); def f(y, x) = 1; f"},
	} {
		if got := order(t, []int{1, 0}, c.text); got != c.want {
			t.Errorf("%q: %q, want %q", c.text, got, c.want)
		}
	}
	for _, c := range []struct {
		texts []string
		want  string
	}{
		{[]string{"pub def «f(x, y) = 1;", "use a.f; def g = f(1, 2);", "use a.f as k; def g = [f(1, 2), k(3, 4)];"}, "pub def f(y, x) = 1;|use a.f; def g = f(2, 1);|use a.f as k; def g = [f(1, 2), k(4, 3)];"},
		{[]string{"pub def «f(x, y) = 1;", "use a.f; def g = f(1, 2);", "use a.f as k; def g = k;"}, "ErrClash"},
		{[]string{"pub def «f(x, y) = 1;", "use a.f; def g = f(1, 2);", "pub use b.f as k; def f = k;"}, "pub def f(y, x) = 1;|use a.f; def g = f(2, 1);|pub use b.f as k; def f = k;"},
		{[]string{"def «f(x, y) = 1;", "use a.f; def g = f;"}, "def f(y, x) = 1;|use a.f; def g = f;"},
	} {
		if got := order(t, []int{1, 0}, c.texts...); got != c.want {
			t.Errorf("%q: %q, want %q", c.texts, got, c.want)
		}
	}
}
