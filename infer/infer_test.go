package infer

import (
	"errors"
	"fmt"
	"reflect"
	"slices"
	"strconv"
	"strings"
	"sync"
	"testing"

	"amanuensis/api"
)

// files gives files with the names a, b, c ..
func files(texts ...string) []api.File {
	var all []api.File
	for i, text := range texts {
		all = append(all, api.File{Name: string(rune('a' + i)), Text: text})
	}
	return all
}

// types gives those of all defs and holes, in order; `-` for none.
func types(t *testing.T, texts ...string) string {
	t.Helper()
	all, err := Types(files(texts...))
	if err != nil {
		t.Fatalf("%.300q: %v", texts, err)
	}
	var out []string
	for _, one := range all {
		if one.Type == "" {
			one.Type = "-"
		}
		out = append(out, one.Type)
	}
	return strings.Join(out, "; ")
}

// tell holds types against what they should be: the last one of each case.
func tell(t *testing.T, cases [][]string) {
	t.Helper()
	for _, c := range cases {
		texts, want := c[:len(c)-1], c[len(c)-1]
		if got := types(t, texts...); got != want {
			t.Errorf("%.300q: got %.300s, want %.300s", texts, got, want)
		}
	}
}

// expressions holds the types of expressions, and of the holes in them, against what they should be.
func expressions(t *testing.T, cases [][2]string) {
	t.Helper()
	for _, c := range cases {
		tell(t, [][]string{{"def main = " + c[0] + ";", c[1]}})
	}
}

// names gives so many, with commas between them.
func names(ahead string, n int) string {
	var all []string
	for i := range n {
		all = append(all, ahead+strconv.Itoa(i))
	}
	return strings.Join(all, ",")
}

func TestY3TheExample(t *testing.T) {
	text := "def id(x) = x; def k = id(id)(3); def f(x) = f; def g(x, y) = if x then [y] else ?;"
	got, err := Types(files(text))
	want := []api.Typed{
		{File: 0, At: 4, Type: "(a) -> a"},
		{File: 0, At: 19, Type: "int"},
		{File: 0, At: 38},
		{File: 0, At: 52, Type: "(bool, a) -> [a]"},
		{File: 0, At: 81, Hole: true, Type: "[a]"},
	}
	if err != nil || !slices.Equal(got, want) {
		t.Errorf("got %v, %v, want %v", got, err, want)
	}
}

// The examples of the whole.
func TestY3ExamplesOfTheWhole(t *testing.T) {
	tell(t, [][]string{
		{"def f(x) = x + 1; def k = f(2);", "(int) -> int; int"},
		{`def f(x) = x + "1"; def k = f(2);`, "-; a"},
	})
}

func TestY1Literals(t *testing.T) {
	expressions(t, [][2]string{
		{"0", "int"}, {"999999999999999999", "int"},
		{`""`, "text"}, {`"\u{e9}"`, "text"},
		{"true", "bool"}, {"false", "bool"},
		{"(1)", "int"}, {"((true))", "bool"},
	})
}

func TestY1Lists(t *testing.T) {
	expressions(t, [][2]string{
		{"[]", "[a]"}, {"[1]", "[int]"}, {"[1, 2, 3]", "[int]"}, {"[[], [true]]", "[[bool]]"},
		{"[1, true]", "-"}, {"[true, 1]", "-"}, {"[1, 2, true]", "-"}, {"[1, [2]]", "-"},
		{"[[], [1], [true]]", "-"},
		{"[fun(x) => x, fun(x) => 1]", "[(int) -> int]"},
	})
}

func TestY1Signs(t *testing.T) {
	values := map[string]string{"int": "1", "text": `"a"`, "bool": "true", "[int]": "[1]", "() -> int": "(fun() => 1)"}
	for _, sign := range []string{"+", "-", "*", "++", "<", "=="} {
		for left, l := range values {
			for right, r := range values {
				want := "-"
				switch {
				case sign == "==" && left == right, sign == "<" && left == "int" && right == "int":
					want = "bool"
				case sign == "++" && left == "text" && right == "text":
					want = "text"
				case len(sign) == 1 && sign != "<" && left == "int" && right == "int":
					want = "int"
				}
				expressions(t, [][2]string{{l + sign + r, want}})
			}
		}
	}
	expressions(t, [][2]string{
		{"fun(x, y) => x + y", "(int, int) -> int"},
		{"fun(x, y) => x - y", "(int, int) -> int"},
		{"fun(x, y) => x * y", "(int, int) -> int"},
		{"fun(x, y) => x ++ y", "(text, text) -> text"},
		{"fun(x, y) => x < y", "(int, int) -> bool"},
		{"fun(x, y) => x == y", "(a, a) -> bool"},
		{"1 + 2 * 3 - 4 < 5", "bool"},
		{"1 + 2 ++ 3", "-"},
		{"[] == [1]", "bool"}, {"[[]] == [1]", "-"},
		{"(fun(x) => x) == (fun(x) => 1)", "bool"},
	})
}

func TestY1If(t *testing.T) {
	expressions(t, [][2]string{
		{"if true then 1 else 2", "int"},
		{"if 1 then 1 else 2", "-"},
		{"if true then 1 else true", "-"},
		{"fun(x, y, z) => if x then y else z", "(bool, a, a) -> a"},
		{"fun(x) => if x then x else x", "(bool) -> bool"},
		{"fun(x) => if x then x else 1", "-"},
		{"if true then [] else [[]]", "[[a]]"},
	})
}

func TestY1FunctionsAndCalls(t *testing.T) {
	expressions(t, [][2]string{
		{"fun() => 1", "() -> int"},
		{"fun(x) => x", "(a) -> a"},
		{"fun(x) => 1", "(a) -> int"},
		{"fun(x) => fun(y) => x", "(a) -> (b) -> a"},
		{"fun(x) => fun(y) => y", "(a) -> (b) -> b"},
		{"fun(x, y) => x(y)", "((a) -> b, a) -> b"},
		{"fun(f, g, x) => f(g(x))", "((a) -> b, (c) -> a, c) -> b"},
		{"fun(x) => x()", "(() -> a) -> a"},
		{"fun(x) => x()(1)", "(() -> (int) -> a) -> a"},
		{"(fun() => 1)()", "int"}, {"(fun() => 1)(1)", "-"},
		{"(fun(x) => x)(1)", "int"}, {"(fun(x) => x)()", "-"}, {"(fun(x) => x)(1, 2)", "-"},
		{"(fun(x, y) => x)(1, true)", "int"}, {"(fun(x, y) => y)(1, true)", "bool"},
		{"(fun(x) => x + 1)(true)", "-"},
		{"1(2)", "-"}, {"[](1)", "-"}, {"true()", "-"},
		{"fun(x) => [x(1), x(true)]", "-"}, // a parameter is not general
		{"(fun(i) => [i(1)])(fun(x) => x)", "[int]"},
		{"(fun(i) => if i(true) then i(1) else 2)(fun(x) => x)", "-"},
		{"fun(x, x) => x", "(a, b) -> a"}, // of two that are the same the first counts
		{"fun(x) => fun(x) => x", "(a) -> (b) -> b"},
	})
}

func TestY1LetsAreGeneral(t *testing.T) {
	expressions(t, [][2]string{
		{"let x = 1 in x", "int"},
		{"let x = 1 in 2 ++ x", "-"},
		{"let x = 1 in true", "bool"},
		{"let x = 1 + true in 2", "-"}, // what nobody asks for has to hold too
		{"let i = fun(x) => x in if i(true) then i(1) else 2", "int"},
		{"let i = fun(x) => x in i(i)(i)", "(a) -> a"},
		{"let l = [] in if l == [1] then l else [true]", "[bool]"},
		{"let i = fun(x) => x in let j = i in if j(true) then j(1) else i(2)", "int"},
		{"let x = fun(x) => x in fun(y) => x(y)", "(a) -> a"},
		{"let x = x in 1", "int"},                                             // the x behind = is another one
		{"let f = fun(x) => f(x) in if f(1) then f(true) else f", "(a) -> b"}, // so is the f behind =>
		{"let f = fun(x) => g(x) in if f(1) then f(2) + f(true) else 3", "int"},
	})
}

func TestY1LetsWithinWhatIsNotGeneral(t *testing.T) {
	expressions(t, [][2]string{
		{"fun(x) => let y = x in [y, 1]", "(int) -> [int]"},
		{"fun(x) => let y = x in if y then y else 1", "-"},
		{"fun(x) => let y = x in if y then 1 + y else 2", "-"},
		{"fun(x) => let y = [x] in if y == [1] then y == [true] else true", "-"},
		{"fun(x) => let p = fun(y) => [x, y] in p(1)", "(int) -> [int]"},
		{"fun(x) => let p = fun(y) => [x, y] in if p(1) == [2] then p(true) else []", "-"},
		{"fun(x) => let p = fun(y, k) => k(x, y) in if p(1, fun(a, b) => true) then p(true, fun(a, b) => x) else x", "(a) -> a"},
		{"fun(x) => let p = fun(y, k) => k(x, y) in if p(1, fun(a, b) => true) then p(true, fun(a, b) => a + 1) else x", "(int) -> int"},
		{"fun(x) => let p = fun(y, k) => k(x, y) in if p(1, fun(a, b) => a) then p(true, fun(a, b) => a + 1) else 2", "-"},
		// y belongs to the let around, and x, what that is, to nothing around: its z is general, its y is not
		{"let x = fun(y) => let z = fun(u) => y in if z(1) then z(true) + 1 else 2 in x", "-"},
		{"let x = fun(y) => let z = fun(u) => y in if z(1) == z(true) then y else z([]) in if x(true) then x(1) else 2", "int"},
		// a variable that belongs to the parameter only because of what stands further on in the let
		{"fun(x) => let y = fun(z) => if x == z then z else z in [y(1)]", "(int) -> [int]"},
		{"fun(x) => let y = fun(z) => if [x] == [z] then z else z in if y(true) then y(1) else 2", "-"},
		{"fun(x) => let y = let z = [x] in fun(u) => [z, [u]] in if y(true) == y(1) then 1 else 2", "-"},
		{"fun(x) => let y = let z = [x] in fun(u) => z in if y(true) == y(1) then x else x", "(a) -> a"},
	})
}

func TestY1WhatIsFree(t *testing.T) {
	expressions(t, [][2]string{
		{"?", "a; a"},
		{"? + 1", "int; int"},
		{"[?, ?]", "[a]; a; a"},
		{"fun(x) => ?", "(a) -> b; a"},
		{"fun(x) => [x, ?]", "(a) -> [a]; a"},
		{"?(1)(?)", "a; (int) -> (a) -> b; a"},
		{"let x = ? in if x then x + 1 else 2", "int; a"},
		{"fun(y) => let x = [y, ?] in x == [1]", "(int) -> bool; int"},
		{"", "a"},
		{"1 +", "int"},
		{"if then 1 else", "int"},
		{"[1, ]", "[int]"},
		{"fun(x) => x(", "((a) -> b) -> b"},
		{"fun(x) => x(,", "((a, b) -> c) -> c"},
		{"nothing", "a"},
		{"nothing + 1", "int"},
		{"if nothing then nothing + 1 else nothing ++ 1", "-"},
		{"if nothing then nothing + 1 else nothing", "int"},
		{"nothing(nothing)", "a"},
		{"let nothing = nothing in if nothing then nothing + 1 else 2", "int"},
	})
	tell(t, [][]string{
		{"use b.x; def f = if x then x + 1 else 2;", "int"},
		{"use b.x; def f = if x then x + 1 else 2;", "def x = 1;", "int; int"},    // x is not shown
		{"use b.x; def f = if x then x + 1 else 2;", "pub def x = 1;", "-; int"},  // it is
		{"use a.x; def f = if x then x + 1 else 2;", "int"},                       // a ring
		{"use b.x; use b.y as x; def f = x;", "pub def y = 1;", "a; int"},         // x is the first one
		{"use b.y as x; use b.x; def f = x;", "pub def y = 1;", "int; int"},       // and here too
		{"def f = b; def g = a.f;", "pub def a = 1;", "a; a; int"},                // no name stands for a file
		{"def f = g; def = 1; def h = ?; def = ?;", "a; a; a"},                    // a def that has no name is none, with all that is in it
		{"def f = let = 1 + ? in 2; def g = let = 1 + true in 2;", "int; int; -"}, // but a let is one
	})
}

func TestY1NamesThatAreMissing(t *testing.T) {
	tell(t, [][]string{
		{"def f(, x) = x;", "(a, b) -> b"},
		{"def f(x, ) = x;", "(a, b) -> a"},
		{"def f(,) = 1;", "(a, b) -> int"},
		{"def f( = 1;", "(a) -> int"},
		{"def f() = 1;", "() -> int"},
		{"def f(,,,x) = f(1, true, x, x);", "(int, bool, a, a) -> b"},
		{"def f = fun => 1;", "(a) -> int"},
		{"def f = fun(, , x) => x;", "(a, b, c) -> c"},
		{"def f = let = fun(x) => x in 1;", "int"},
	})
}

func TestY1HoldsItself(t *testing.T) {
	expressions(t, [][2]string{
		{"fun(x) => x(x)", "-"},
		{"fun(x) => [x, [x]]", "-"},
		{"fun(x) => x == [x]", "-"},
		{"fun(x) => x == (fun() => x)", "-"},
		{"fun(x, y) => [x == [y], y == [x]]", "-"},
		{"fun(x, y) => [[x, [y]] == [], [y, [x]] == []]", "-"},
		{"let i = fun(x) => x in i(i)", "(a) -> a"}, // two of it hold each other
		{"let w = fun(x) => x(x) in 1", "-"},        // also where nobody sees it
		{"(fun(x) => 1)(fun(x) => x(x))", "-"},
		{"fun(x, y) => if x == [x] then y == [y] else x == y", "-"},
		{"fun(x, y, z) => [x == (fun() => x), y == (fun() => y), x == y, y == z]", "-"},
		{"fun(x, y, z) => [x == [[x]], y == [y], x == y, z == [[[z]]], z == y]", "-"},
		{"fun(x) => let y = [x] in let z = [y, [[x], x]] in 1", "-"},
		{"fun(x, k) => k(x == [x], let y = x in y)", "-"},
		{"let x = fun(x) => [x, [x]] in x(x)", "-"},
	})
	tell(t, [][]string{
		{"def f(x) = f;", "-"},
		{"def f = [f];", "-"},
		{"def f = f;", "a"},
		{"def f = g; def g = [f]; def h = g;", "-; -; a"},
		{"def f = fun(x) => f(f);", "-"},
	})
}

// wide is a function of so many names: it has two parts more.
func wide(n int) string { return "(fun(" + names("x", n) + ") => 1)" }

func TestY2TypesOfManyParts(t *testing.T) {
	most := wide(api.MaxParts - 2)
	wideType := func(n int) string {
		text := types(t, "def f = "+wide(n)+";")
		if n <= api.MaxParts-2 && strings.Count(text, ", ") != n-1 {
			t.Fatalf("%d: %s", n, text)
		}
		return text
	}
	tell(t, [][]string{
		{"def f = " + wide(api.MaxParts-1) + ";", "-"},
		{"def f = let x = " + wide(api.MaxParts-1) + " in 1;", "-"},   // also where nobody sees it
		{"def f = (fun(x) => 1)(" + wide(api.MaxParts-3) + ");", "-"}, // the function that is called has two parts more
		{"def f = (fun(x) => 1)(" + wide(api.MaxParts-4) + ");", "int"},
		{"def f = [" + most + "];", "-"},
		{"def f = " + most + " == ?;", "bool; " + wideType(api.MaxParts-2)},
		{"def f = [" + wide(api.MaxParts-3) + "];", "[" + wideType(api.MaxParts-3) + "]"},
		{"def f = ?(" + wide(api.MaxParts-2) + ");", "-; -"},
		// what it has in the end counts
		{"def f = fun(x) => if x == " + wide(api.MaxParts-3) + " then [x] else [];", "-"},
		{"def f = fun(x) => if [x] == [] then if x == " + wide(api.MaxParts-2) + " then 1 else 2 else 3;", "-"},
		{"def f = fun(x) => let y = [x] in if x == " + wide(api.MaxParts-2) + " then 1 else 2;", "-"},
		{"def f = fun(x) => if x == " + most + " then 1 else 2;", "-"},
		{"def f = " + most + "(" + names("", api.MaxParts-2) + ");", "int"},
		// a let counts as what it is where its name stands, too
		{"def f = let p = fun(x) => fun(y) => 1 in p(" + wide(api.MaxParts-6) + ");", "(a) -> int"},
		{"def f = let p = fun(x) => fun(y) => 1 in p(" + wide(api.MaxParts-5) + ");", "-"},
	})
}

// A def is no expression: it may have a type of more parts, as long as no name stands for it.
func TestY2DefsOfManyParts(t *testing.T) {
	def := func(n int) string { return "def f(" + names("x", n) + ") = 1;" }
	count := func(text string) int { return strings.Count(strings.Split(text, ") -> ")[0], ", ") + 1 }
	for _, n := range []int{api.MaxParts - 2, api.MaxParts - 1, api.MaxParts, 1200} {
		if got := count(types(t, def(n))); got != n {
			t.Errorf("%d names: %d in the type", n, got)
		}
		call := "f(" + names("", n) + ")"
		want := "int"
		if n > api.MaxParts-2 {
			want = "-"
		}
		if got := strings.Split(types(t, def(n)+"def g = "+call+"; def h = g;"), "; "); got[0] == "-" || got[1] != want {
			t.Errorf("%d names: the def %.20s, the call %s", n, got[0], got[1])
		}
		own := types(t, "def f("+names("x", n)+") = if true then 1 else "+call+";")
		if (own == "-") != (want == "-") {
			t.Errorf("%d names, that calls itself: %.20s", n, own)
		}
	}
}

func TestY2Groups(t *testing.T) {
	tell(t, [][]string{
		{"def f(n) = if n < 1 then 1 else n * f(n - 1);", "(int) -> int"},
		{"def even(n) = if n == 0 then true else odd(n - 1); def odd(n) = if n == 0 then false else even(n - 1);", "(int) -> bool; (int) -> bool"},
		// in its group a def is what it is; to others it is general
		{"def i(x) = x; def k = if i(true) then i(1) else 2;", "(a) -> a; int"},
		{"def k = if i(true) then i(1) else 2; def i(x) = x;", "int; (a) -> a"},
		{"def i(x) = if true then x else k; def k = i(1);", "(int) -> int; int"},
		{"def i(x) = x; def k = if i(true) then i(1) else j; def j = k;", "(a) -> a; int; int"},
		{"def i(x) = if i(true) == true then x else x;", "(bool) -> bool"},
		{"def i(x) = let y = i(true) in let z = i(1) in x;", "-"}, // also in a let
		{"def f = let g = f in [g(1), g(true)];", "-"},
		{"def f(x) = let g = f in if g(x) == g(x) then x else x;", "(a) -> a"},
		{"def f(x, y) = let g = fun(z) => f(z, y) in if g(x) then 1 else 2;", "-"},
		{"def f(x, y) = let g = fun(z, u) => [f(z, y), u] in if g(x, 1) == [2] then 1 else 2;", "(a, b) -> int"},
		{"def f(x, y) = let g = fun(z, u) => if true then u else let v = f(z, y) in u in if g(x, true) then g(x, 1) else 2;", "(a, b) -> int"},
		// the holes of each
		{"def f(x) = if g(x) then ? else 1; def g(x) = if f(x) == 1 then ? else h([x, ?]); def h(x) = if g(?) then ? else ? == f(2);", "(int) -> int; int; (int) -> bool; bool; int; ([int]) -> bool; int; bool; int"},
		// three, over each other
		{"def f(x) = g(x); def g(x) = h(x) + 1; def h(x) = if true then 1 else f(x);", "(a) -> int; (a) -> int; (a) -> int"},
		{"def f(x) = g(x); def g(x) = h([x]); def h(x) = if true then f(x) else 1;", "-; -; -"},
		// two groups, one of which leads to the other
		{"def f(x) = g(x); def g(x) = f(x); def h(x) = if f(1) then g(true) else x; def k(x) = h(k(x));", "(a) -> b; (a) -> b; (a) -> a; (a) -> b"},
		{"def a1 = b1; def b1 = c1; def c1 = [a1, b1]; def d1 = c1;", "-; -; -; a"},
		// with and without an NParams
		{"def f = fun(x) => g(x); def g(x) = f(x);", "(a) -> b; (a) -> b"},
		{"def f() = 1; def g = f; def h = f();", "() -> int; () -> int; int"},
		{"def f() = f;", "-"},
		{"def f() = f();", "() -> a"},
		{"def f(f) = f;", "(a) -> a"},
		{"def f(g) = g + 1; def g = f(2);", "(int) -> int; int"}, // a parameter, not the def
		{"def f = let f = 1 in f; def g = [f];", "int; [int]"},
	})
}

func TestY2GroupsAcrossFiles(t *testing.T) {
	tell(t, [][]string{
		{"use b.odd; pub def even(n) = if n == 0 then true else odd(n - 1);", "use a.even; pub def odd(n) = if n == 0 then false else even(n - 1);", "(int) -> bool; (int) -> bool"},
		{"use b.k; pub def i(x) = if true then x else k;", "use a.i; pub def k = i(1);", "(int) -> int; int"},
		{"use b.i; def k = if i(true) then i(1) else 2;", "pub def i(x) = x;", "int; (a) -> a"},
		{"use b.f; def k = [f(?)];", "pub use c.g as f;", "pub def g(x) = x + 1;", "[int]; int; (int) -> int"},
		{"use b.x; pub def y = [x];", "use c.x; pub def x = c; use c.x as c;", "use a.y as x; pub def x = 1; pub use a.y as z;", "[a]; a; int"},
		{"use b.x; pub def y = [x];", "use c.x as c; pub def x = c;", "pub use a.y as x;", "-; -"},
		{"def x = 1;", "def x = true; def y = x;", "def x = y;", "int; bool; bool; a"},
	})
}

func TestY2Twice(t *testing.T) {
	tell(t, [][]string{
		{"def f = 1; def f = true; def g = f;", "int; bool; int"},
		{"def f = g; def f = [g]; def g = f;", "a; [a]; a"}, // the second one is alone: nobody leads to it
		{"def f = f; def f(x) = f(x);", "a; (a) -> b"},
		{"def f = 1; def f(x) = f(x); def g = f + 1;", "int; -; int"},
		{"def f(x) = f; def f = ?; def g = f + 1; def h = f ++ \"\";", "-; a; a; int; text"},
		{"use b.f; def f = 1; def g = f;", "pub def f = true;", "int; bool; bool"},
		{"def f = 1; use b.f; def g = f;", "pub def f = true;", "int; int; bool"},
	})
}

func TestY2GroupsThatHaveNone(t *testing.T) {
	tell(t, [][]string{
		{"def f = 1 + true; def g = f; def h = if f then f + 1 else 2; def k(x) = f(x);", "-; a; int; (a) -> b"},
		{"def f = g; def g = if f then 1 + g else 2; def h = 3;", "-; -; int"},
		{"def f = ? + true; def g = [?];", "-; -; [a]; a"}, // the holes of what has none have none
		{"def f = g; def g = [f, ?]; def h = [f, g, ?];", "-; -; -; [a]; a"},
		{"use b.f; def g = if f then f + 1 else 2;", "pub def f = 1 + true;", "int; -"},
		{"def f(x) = let y = 1 + true in x; def g = [f(1)] == [true];", "-; bool"},
		{"def f(x) = 1 + true; def g = let h = f in if h then h + 1 else 2;", "-; int"},
		{"def f(x) = x(1); def g = f(1); def h = f(f); def k = f(fun(x) => [x]);", "((int) -> a) -> a; -; -; [int]"},
	})
}

func TestY3Order(t *testing.T) {
	got, err := Types(files(
		"def g = [?, fun(?) => ?]; ? ; def f(x = ?; pub def = ?; def h = let ? = ? in ?(?, ?);",
		"use ?.?; def", "pub def x = \"?\" ++ ? -- ?\n;"))
	want := []api.Typed{
		{File: 0, At: 4, Type: "[(a) -> b]"}, {File: 0, At: 9, Hole: true, Type: "(a) -> b"}, {File: 0, At: 16, Hole: true, Type: "a"},
		{File: 0, At: 34, Type: "(a) -> b"}, {File: 0, At: 40, Hole: true, Type: "a"},
		{File: 0, At: 60, Type: "a"}, {File: 0, At: 68, Hole: true, Type: "a"},
		{File: 2, At: 8, Type: "text"}, {File: 2, At: 19, Hole: true, Type: "text"},
	}
	if err != nil || !slices.Equal(got, want) {
		t.Errorf("got %v, %v, want %v", got, err, want)
	}
}

func TestY3Text(t *testing.T) {
	expressions(t, [][2]string{
		{"fun(f, g) => if f(g) then [fun(x) => f] else []", "((a) -> bool, a) -> [(b) -> (a) -> bool]"},
		{"fun(f) => f(fun(x) => fun(y) => x + 1, [])", "(((int) -> (a) -> int, [b]) -> c) -> c"},
		{"fun() => fun() => [[\"\"]]", "() -> () -> [[text]]"},
		{"fun(x) => fun(y, z) => [y, x]", "(a) -> (a, b) -> [a]"},
		{"fun(x, y, z) => [z, x]", "(a, b, a) -> [a]"},
		{"fun(x, y, z) => fun(u) => [y == u, z == u]", "(a, b, b) -> (b) -> [bool]"},
	})
}

func TestY3ManyVariables(t *testing.T) {
	got := types(t, "def f("+names("x", 60)+") = fun("+names("y", 3)+") => [x0, y2, x53];")
	want := "(" // x0 and x53 are one, and y2
	for i := range 60 {
		name := fmt.Sprint(string(rune('a'+i%26)), i/26)
		switch {
		case i == 53:
			name = "a0"
		case i > 53:
			name = fmt.Sprint(string(rune('a'+(i-1)%26)), (i-1)/26)
		}
		if i > 0 {
			want += ", "
		}
		want += strings.TrimSuffix(name, "0")
	}
	want += ") -> (h2, i2, a) -> [a]"
	if got != want {
		t.Errorf("got %s, want %s", got, want)
	}
	for n, want := range map[int]string{26: "z", 27: "a1", 52: "z1", 53: "a2", 27 * 26: "z26", 26*100 + 1: "a100"} {
		got := types(t, "def f("+names("x", n)+") = 1;")
		if !strings.HasSuffix(got, " "+want+") -> int") {
			t.Errorf("%d names: .. %s", n, got[len(got)-20:])
		}
	}
}

func TestY3Faults(t *testing.T) {
	full := files(strings.Repeat(" ", api.MaxFile+1))
	var many []api.File
	for i := range api.MaxFiles + 1 {
		many = append(many, api.File{Name: "n" + strconv.Itoa(i)})
	}
	for _, c := range []struct {
		files []api.File
		want  api.Errno
	}{
		{many, api.ErrFull},
		{full, api.ErrFull},
		{append([]api.File{{Name: "1"}}, full...), api.ErrFull},
		{[]api.File{{Name: "1", Text: "def f = 1;"}}, api.ErrName},
		{[]api.File{{Name: "", Text: "def f = 1;"}}, api.ErrName},
		{[]api.File{{Name: "def", Text: "def f = 1;"}}, api.ErrName},
		{[]api.File{{Name: "a", Text: "def f = 1;"}, {Name: "a"}}, api.ErrTwice},
		{[]api.File{{Name: "a"}, {Name: "a"}, {Name: "\xff"}}, api.ErrTwice},
		{[]api.File{{Name: "a"}, {Name: "?"}, {Name: "a"}}, api.ErrName},
	} {
		got, err := Types(c.files)
		var errno api.Errno
		if len(got) != 0 || !errors.As(err, &errno) || errno != c.want {
			t.Errorf("%.60v: got %v, %v, want %v", c.files, got, err, c.want)
		}
	}
	if got, err := Types(many[:api.MaxFiles]); len(got) != 0 || err != nil {
		t.Errorf("got %v, %v", got, err)
	}
	if got, err := Types(nil); len(got) != 0 || err != nil {
		t.Errorf("got %v, %v", got, err)
	}
}

// What is no program at all has types too, where there is a def.
func TestY3WrongTexts(t *testing.T) {
	tell(t, [][]string{
		{"", ""}, {"\xff\x00", ""}, {"def", ""}, {"def f", "a"}, {"def f(", "(a) -> b"}, {"def f = = 1;", "a"}, {"pub f = 1", "int"},
		{"def f(x y) = 1; def g = f;", "(a) -> b; (a) -> b"},
		{"def f(x) = \x80 1 + 1; def g = f(1);", "(a) -> b; a"},
		{"def f = \"", "a"}, {"def f = {- 1;", "a"}, {"def f = " + strings.Repeat("[", api.MaxNest+1), strings.Repeat("[", api.MaxNest+1) + "a" + strings.Repeat("]", api.MaxNest+1)},
		{"def f = " + strings.Repeat("(", api.MaxNest) + "1", "int"}, {"def f = " + strings.Repeat("(", api.MaxNest+1) + "1", "a"},
	})
}

// What comes in stays as it is, what comes out is new each time.
func TestY3Memory(t *testing.T) {
	in := files("def f(x) = x + ?;", "use a.f; def g = f;", "no")
	with := append(in[:2:3], in[2])
	before := slices.Clone(in)
	first, _ := Types(with[:2])
	if !reflect.DeepEqual(in, before) {
		t.Errorf("the files have become %v", in)
	}
	want := slices.Clone(first)
	second, _ := Types(with[:2])
	for i := range first {
		first[i] = api.Typed{File: -1, Type: "x"}
	}
	_ = append(first, api.Typed{})
	if !slices.Equal(second, want) {
		t.Errorf("got %v, want %v", second, want)
	}
}

func TestY3AtOnce(t *testing.T) {
	in := files("def f(x) = g(x); def g(x) = f([x]); def h = f(?);", "def i(x) = x; def k = i(i)(3);")
	want, _ := Types(in)
	var all sync.WaitGroup
	for range 8 {
		all.Go(func() {
			for range 50 {
				if got, err := Types(in); err != nil || !slices.Equal(got, want) {
					t.Errorf("got %v, %v, want %v", got, err, want)
					return
				}
			}
		})
	}
	all.Wait()
}
