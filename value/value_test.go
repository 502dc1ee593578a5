package value

import (
	"errors"
	"reflect"
	"slices"
	"strconv"
	"strings"
	"sync"
	"testing"

	"amanuensis/api"
)

// files gives files with the names a, b, c ..
func files(texts ...string) []api.File {
	var all []api.File
	for i, text := range texts {
		all = append(all, api.File{Name: string(rune('a' + i)), Text: text})
	}
	return all
}

// told gives what Eval answers in one text: a value, or the name of an error.
func told(t *testing.T, files []api.File, file int, name string, fuel int) string {
	t.Helper()
	out, err := Eval(files, file, name, fuel)
	if err == nil {
		return out
	}
	var errno api.Errno
	if out != "" || !errors.As(err, &errno) || errno == api.OK {
		t.Errorf("%.200q %d %q %d: %q beside %v", files, file, name, fuel, out, err)
	}
	return errno.Error()
}

// asked holds what the def `main` of the first file comes to against what it should: the last one of each case.
func asked(t *testing.T, cases [][]string) {
	t.Helper()
	for _, c := range cases {
		texts, want := c[:len(c)-1], c[len(c)-1]
		if got := told(t, files(texts...), 0, "main", 1000); got != want {
			t.Errorf("%.200q: got %.200s, want %.200s", texts, got, want)
		}
	}
}

// expressions holds what expressions come to against what they should, with some defs beside them.
func expressions(t *testing.T, defs string, cases [][2]string) {
	t.Helper()
	for _, c := range cases {
		asked(t, [][]string{{"def main = " + c[0] + ";" + defs, c[1]}})
	}
}

// need tells that the def `main` comes to something with so much fuel, and with no less.
func need(t *testing.T, text string, fuel int, want string) {
	t.Helper()
	if got := told(t, files(text), 0, "main", fuel); got != want {
		t.Errorf("%.200q with %d: got %.200s, want %.200s", text, fuel, got, want)
	}
	for less := range fuel {
		if got := told(t, files(text), 0, "main", less); got != "ErrLong" {
			t.Errorf("%.200q with %d: got %.200s", text, less, got)
		}
	}
}

func TestV1TheExample(t *testing.T) {
	in := files("def f(n) = if n == 0 then 1 else n * f(n - 1); def x = [f(5), 2]; def y = x == [1, f];")
	for _, c := range []struct {
		name string
		fuel int
		want string
	}{{"x", 7, "[120, 2]"}, {"x", 6, "ErrLong"}, {"y", 99, "false"}, {"y", 9, "false"}, {"y", 8, "ErrLong"}} {
		if got := told(t, in, 0, c.name, c.fuel); got != c.want {
			t.Errorf("%s with %d: got %s, want %s", c.name, c.fuel, got, c.want)
		}
	}
}

// The examples of the whole.
func TestV1ExampleOfTheWhole(t *testing.T) {
	if got := told(t, files("def f(x) = x + 1; def k = f(2);"), 0, "k", 2); got != "3" {
		t.Errorf("got %s", got)
	}
}

func TestV1WhichDef(t *testing.T) {
	long := strings.Repeat("x", api.MaxWord+1)
	in := files(
		"use b.d; def one = 1; def two(x) = 2; def two = 22; def three = 3; def three(x) = 33; def none() = 4; use b.d as e; def e = 5; def f(x = 6;",
		"pub def d = 7; def def = 8; def = 9; one = 10; def "+long+" = 11; def eleven = fun(p) => let l = 1 in p; def é1 = 12; def one = 13; def ended",
		"")
	for _, c := range []struct {
		file       int
		name, want string
	}{
		{0, "one", "1"}, {1, "one", "13"}, {2, "one", "ErrName"},
		{0, "two", "ErrName"}, // the one that has the name has an NParams
		{0, "three", "3"},     // that with an NParams is twice
		{0, "none", "ErrName"},
		{0, "d", "ErrName"}, // an NUse, though it stands for a def
		{0, "e", "ErrName"}, // an NUse has the name
		{0, "f", "ErrName"},
		{1, "d", "7"}, {1, long, "11"}, {1, "eleven", "fun"}, {1, "é1", "12"},
		{1, "p", "ErrName"}, {1, "l", "ErrName"}, // no items
		{1, "def", "ErrName"}, {1, "", "ErrName"}, {0, "", "ErrName"}, {1, " one", "ErrName"}, {1, "\xff", "ErrName"}, {1, "é", "ErrName"},
		{1, "ended", "ErrStuck"},
	} {
		if got := told(t, in, c.file, c.name, 10); got != c.want {
			t.Errorf("%d %q: got %s, want %s", c.file, c.name, got, c.want)
		}
	}
}

// Resolve's faults come first, then ErrRange, then ErrName.
func TestV1Faults(t *testing.T) {
	var many []api.File
	for i := range api.MaxFiles + 1 {
		many = append(many, api.File{Name: "n" + strconv.Itoa(i), Text: "def x = 1;"})
	}
	full := files("def x = 1;" + strings.Repeat(" ", api.MaxFile-9))
	good := files("def x = 1;", "def y = 2;")
	for _, c := range []struct {
		files []api.File
		file  int
		name  string
		fuel  int
		want  string
	}{
		{many, 0, "x", 10, "ErrFull"}, {many, -1, "", -1, "ErrFull"}, {many[:api.MaxFiles], api.MaxFiles - 1, "x", 10, "1"},
		{many[:api.MaxFiles], api.MaxFiles, "x", 10, "ErrRange"},
		{full, 0, "x", 10, "ErrFull"}, {full, 9, "", -1, "ErrFull"},
		{[]api.File{{Name: "1", Text: "def x = 1;"}}, 0, "x", -1, "ErrName"},
		{[]api.File{{Name: "a", Text: "def x = 1;"}, {Name: "a"}}, 7, "x", 10, "ErrTwice"},
		{nil, 0, "x", 10, "ErrRange"}, {nil, -1, "", 0, "ErrRange"},
		{good, -1, "x", 10, "ErrRange"}, {good, 2, "x", 10, "ErrRange"}, {good, 1 << 62, "x", 10, "ErrRange"}, {good, -1 << 63, "x", 10, "ErrRange"},
		{good, 0, "x", -1, "ErrRange"}, {good, 0, "x", api.MaxFuel + 1, "ErrRange"}, {good, 0, "x", 1<<63 - 1, "ErrRange"}, {good, 0, "x", -1 << 63, "ErrRange"},
		{good, 0, "y", -1, "ErrRange"}, {good, 2, "y", 10, "ErrRange"}, {good, 0, "y", api.MaxFuel + 1, "ErrRange"},
		{good, 0, "y", 0, "ErrName"}, {good, 0, "x", 0, "ErrLong"},
		{good, 0, "x", 1, "1"}, {good, 0, "x", api.MaxFuel, "1"}, {good, 1, "y", 10, "2"},
	} {
		if got := told(t, c.files, c.file, c.name, c.fuel); got != c.want {
			t.Errorf("%.100v %d %q %d: got %s, want %s", c.files, c.file, c.name, c.fuel, got, c.want)
		}
	}
}

// What comes first is told.
func TestV1WhatComesFirst(t *testing.T) {
	full := `def d(s) = s ++ s; def t = d(d("` + strings.Repeat("x", 5000) + `")); def loop = loop;`
	expressions(t, full, [][2]string{
		{"[?, loop]", "ErrStuck"}, {"[loop, ?]", "ErrLong"},
		{`[t ++ "y", ?]`, "ErrFull"}, {`[?, t ++ "y"]`, "ErrStuck"},
		{`[t ++ "y", loop]`, "ErrFull"}, {`[loop, t ++ "y"]`, "ErrLong"},
		{"[t, ?]", "ErrStuck"}, {"[t, loop]", "ErrLong"}, {"[t]", "ErrFull"}, // how long a value's text is counts last
		// both parts come to their values ahead of what is made of them
		{"true + loop", "ErrLong"}, {"loop + true", "ErrLong"}, {"true + ?", "ErrStuck"},
		{`1 ++ (t ++ "y")`, "ErrFull"}, {`(t ++ "y") ++ ?`, "ErrFull"},
		{"d == loop", "ErrLong"}, {"1 < loop", "ErrLong"},
		{"1(loop)", "ErrLong"}, {"?(loop)", "ErrStuck"}, {"loop(?)", "ErrLong"}, {"d(1, loop)", "ErrLong"}, {"d(loop, ?)", "ErrLong"}, {"d(?, loop)", "ErrStuck"},
		{"let x = ? in loop", "ErrStuck"}, {"let x = loop in ?", "ErrLong"},
		{"if ? then loop else loop", "ErrStuck"}, {"if loop then ? else ?", "ErrLong"}, {"if 1 then loop else loop", "ErrStuck"},
	})
	// a call that cannot be takes no fuel; one that can takes it ahead of its expression
	for _, c := range [][2]string{{"1()", "ErrStuck"}, {"f(1)", "ErrStuck"}, {"f()", "ErrLong"}, {"[1] == [2]", "ErrLong"}, {"[1] == 2", "ErrStuck"}} {
		if got := told(t, files("def main = "+c[0]+"; def f() = ?;"), 0, "main", 1); got != c[1] {
			t.Errorf("%s: got %s, want %s", c[0], got, c[1])
		}
	}
}

func TestV2Literals(t *testing.T) {
	expressions(t, "", [][2]string{
		{"0", "0"}, {"007", "7"}, {"999999999999999999", "999999999999999999"}, {"000000000000000000", "0"},
		{"1000000000000000000", "ErrStuck"}, // it is no TInt
		{"true", "true"}, {"false", "false"},
		{`""`, `""`}, {`"a b"`, `"a b"`}, {`"\u{41}\n\t\"\\\u{e9}"`, `"A\n\t\"\\é"`}, {`"\q"`, "ErrStuck"},
		{"[]", "[]"}, {"[1]", "[1]"}, {"[1, true, \"a\", [[]], fun() => 1]", `[1, true, "a", [[]], fun]`},
		{"((1))", "1"}, {"([(true)])", "[true]"},
		{"fun() => ?", "fun"}, {"fun(x, y) => nothing", "fun"},
	})
}

// bounds are defs of the numbers of 64 bits beyond which there are none.
const bounds = "def max = 999999999999999999 * 9 + 223372036854775816; def min = 0 - max - 1; def neg(x) = 0 - x;"

func TestV2Numbers(t *testing.T) {
	expressions(t, bounds, [][2]string{
		{"1 + 2", "3"}, {"1 - 2", "-1"}, {"3 * 4", "12"}, {"2 + 3 * 4 - 5", "9"}, {"1 - 2 - 3", "-4"}, {"neg(3) * 4", "-12"}, {"neg(3) * neg(4)", "12"}, {"neg(0)", "0"},
		{"max", "9223372036854775807"}, {"min", "-9223372036854775808"},
		{"max + 1", "ErrStuck"}, {"1 + max", "ErrStuck"}, {"max + 0", "9223372036854775807"}, {"max + max", "ErrStuck"}, {"max + min", "-1"}, {"min + max", "-1"},
		{"min + neg(1)", "ErrStuck"}, {"neg(1) + min", "ErrStuck"}, {"min + min", "ErrStuck"}, {"min + 0", "-9223372036854775808"},
		{"min - 1", "ErrStuck"}, {"min - 0", "-9223372036854775808"}, {"max - neg(1)", "ErrStuck"}, {"neg(1) - max", "-9223372036854775808"}, {"neg(2) - max", "ErrStuck"},
		{"0 - min", "ErrStuck"}, {"neg(1) - min", "9223372036854775807"}, {"min - min", "0"}, {"max - max", "0"}, {"max - min", "ErrStuck"}, {"min - max", "ErrStuck"},
		{"min * 1", "-9223372036854775808"}, {"1 * min", "-9223372036854775808"}, {"min * 0", "0"}, {"0 * min", "0"},
		{"min * neg(1)", "ErrStuck"}, {"neg(1) * min", "ErrStuck"}, {"max * neg(1)", "-9223372036854775807"}, {"neg(1) * max", "-9223372036854775807"},
		{"min * min", "ErrStuck"}, {"max * max", "ErrStuck"}, {"min * 2", "ErrStuck"}, {"2 * max", "ErrStuck"}, {"min * max", "ErrStuck"},
		{"3037000499 * 3037000499", "9223372030926249001"}, {"3037000500 * 3037000500", "ErrStuck"}, {"neg(3037000500) * 3037000500", "ErrStuck"},
		{"4294967296 * 4294967296", "ErrStuck"}, {"4294967296 * 2147483648", "ErrStuck"}, {"neg(4294967296) * 2147483648", "-9223372036854775808"}, {"2147483648 * neg(4294967296)", "-9223372036854775808"},
		{"1 < 2", "true"}, {"2 < 1", "false"}, {"1 < 1", "false"}, {"min < max", "true"}, {"max < min", "false"}, {"neg(1) < 0", "true"},
		{"1 == 1", "true"}, {"1 == 2", "false"}, {"007 == 7", "true"}, {"min == min", "true"}, {"min == max", "false"},
	})
}

func TestV2Texts(t *testing.T) {
	expressions(t, "", [][2]string{
		{`"a" ++ "b"`, `"ab"`}, {`"" ++ ""`, `""`}, {`"a" ++ ""`, `"a"`}, {`"" ++ "b"`, `"b"`}, {`"a" ++ "b" ++ "c"`, `"abc"`},
		{`"\n" ++ "é"`, `"\né"`}, {`let s = "ab" in s ++ s ++ s`, `"ababab"`},
		{`"a" == "a"`, "true"}, {`"a" == "b"`, "false"}, {`"a" == "ab"`, "false"}, {`"" == ""`, "true"}, {`"\u{61}" == "a"`, "true"}, {`"ab" == "a" ++ "b"`, "true"},
	})
}

// half gives defs by which a text of so many bytes is made of two halves.
func half(n int) string {
	return `def half = "` + strings.Repeat("x", n/2) + `"; def rest = "` + strings.Repeat("y", n-2*(n/2)) + `"; def t = half ++ rest ++ half;`
}

func TestV2TextsThatAreTooLong(t *testing.T) {
	expressions(t, half(api.MaxFile), [][2]string{
		{"t == t", "true"}, {`t == t ++ ""`, "true"}, {`"" ++ t == t`, "true"}, {`t ++ "x"`, "ErrFull"}, {`"x" ++ t == t`, "ErrFull"}, {"t ++ t", "ErrFull"},
		{"t", "ErrFull"}, // its text has two bytes more
		{"half == t", "false"}, {"half ++ half == t", "true"}, {`half ++ "x" ++ half`, "ErrFull"},
	})
	expressions(t, half(api.MaxFile-1), [][2]string{
		{`t ++ "x" == "x" ++ t`, "false"}, {`half ++ ("y" ++ half) == t`, "true"}, {`t ++ "é"`, "ErrFull"}, {`t ++ "xx"`, "ErrFull"},
		{`let s = t ++ "x" in [s == s, s == t, s == half ++ ("y" ++ (half ++ "x"))]`, "[true, false, true]"},
	})
}

// kinds are values of all kinds.
var kinds = [][2]string{{"number", "1"}, {"truth", "true"}, {"text", `"a"`}, {"list", "[1]"}, {"function", "(fun(x) => x)"}, {"function", "f"}}

func TestV2ValuesOfAnotherKind(t *testing.T) {
	results := map[string]string{
		"number+": "2", "number-": "0", "number*": "1", "number<": "false", "text++": `"aa"`,
		"number==": "true", "truth==": "true", "text==": "true", "list==": "true",
	}
	for _, left := range kinds {
		for _, right := range kinds {
			for _, sign := range []string{"+", "-", "*", "<", "++", "=="} {
				want := "ErrStuck"
				if result, ok := results[left[0]+sign]; ok && left[0] == right[0] {
					want = result
				}
				expressions(t, "def f(x) = x;", [][2]string{{left[1] + sign + right[1], want}})
			}
		}
		test, called := "ErrStuck", "ErrStuck"
		if left[0] == "truth" {
			test = "2"
		}
		if left[0] == "function" {
			called = "4"
		}
		expressions(t, "def f(x) = x;", [][2]string{{"if " + left[1] + " then 2 else 3", test}, {left[1] + "(4)", called}})
	}
}

func TestV2Lists(t *testing.T) {
	expressions(t, "def f(x) = x;", [][2]string{
		{"[1, 2] == [1, 2]", "true"}, {"[1, 2] == [1, 3]", "false"}, {"[] == []", "true"}, {"[] == [1]", "false"}, {"[1] == [1, 2]", "false"}, {"[1, 2] == [1]", "false"},
		{"[[1], []] == [[1], []]", "true"}, {"[[1], []] == [[1], [2]]", "false"}, {"[[[]]] == [[[]]]", "true"}, {"[[]] == [[[]]]", "false"},
		{"[true, false] == [true, false]", "true"}, {`["a"] == ["a"]`, "true"}, {`["a", "b"] == ["a", "c"]`, "false"},
		// of another kind, or functions, as far as they are come to
		{"[1] == [true]", "ErrStuck"}, {"[f] == [f]", "ErrStuck"}, {"[[]] == [1]", "ErrStuck"}, {"[fun() => 1] == [1]", "ErrStuck"},
		{"[1, f] == [2, f]", "false"}, {"[1, f] == [1, f]", "ErrStuck"}, {"[f, 1] == [f, 2]", "ErrStuck"}, {"[f] == [f, f]", "false"}, {"[f] == []", "false"},
		{"[[1, f], f] == [[2, f], f]", "false"}, {"[[1, f], 2] == [[1], 2]", "false"}, {"[[f], 1] == [[f], 2]", "ErrStuck"},
		{"[1, true] == [1, 2]", "ErrStuck"}, {"[0, true] == [1, 2]", "false"},
		{"[1] == 1", "ErrStuck"}, {"1 == [1]", "ErrStuck"}, {"[] == 1", "ErrStuck"},
		{"[1, 2, ?]", "ErrStuck"}, {"[1, 2,]", "ErrStuck"}, {"[1, , 2]", "ErrStuck"}, {"[1 2]", "[1]"}, // the list ends where a sign is missing
	})
}

func TestV2If(t *testing.T) {
	expressions(t, "", [][2]string{
		{"if true then 1 else 2", "1"}, {"if false then 1 else 2", "2"}, {"if 1 < 2 then [] else ?", "[]"}, {"if 2 < 1 then ? else true", "true"},
		{"if true then if false then 1 else 2 else 3", "2"}, {"if false then 1 else if true then 2 else 3", "2"}, {"if if true then false else true then 1 else 2", "2"},
		{"[if true then 1 else 2, if false then 3 else 4, 5]", "[1, 4, 5]"}, {"1 + (if true then 2 else 3) * 4", "9"},
		{"if true then 1", "1"}, {"if false then 1", "ErrStuck"}, {"if then 1 else 2", "ErrStuck"}, {"if true 1 else 2", "1"}, {"if true then 1 2", "1"},
	})
}

func TestV2Lets(t *testing.T) {
	expressions(t, "def y = 10;", [][2]string{
		{"let x = 1 in x", "1"}, {"let x = 1 in let x = 2 in x", "2"}, {"let x = 1 in let y = x in [x, y]", "[1, 1]"},
		{"let x = 1 in (let x = x + 1 in x) + x", "3"}, {"[let x = 1 in x, let x = 2 in x]", "[1, 2]"},
		{"let y = y + 1 in y", "11"}, {"(let y = 1 in y) + y", "11"}, {"let x = let x = 1 in x + 1 in x * 2", "4"},
		{"let x = x in 1", "ErrStuck"}, {"let x = 1 in ?", "ErrStuck"}, {"let x = ? in 1", "ErrStuck"}, {"let x = 1", "ErrStuck"},
		{"let = 1 in 2", "2"}, {"let = ? in 2", "ErrStuck"}, {"let x = 1 x", "1"},
		{"let f = fun(n) => if n == 0 then 0 else f(n - 1) in f(1)", "ErrStuck"}, // the f within is another one
	})
}

func TestV2FunctionsAndCalls(t *testing.T) {
	expressions(t, "def f(x, y) = x - y; def k() = 7; def g = fun(x) => x + 1; def s(x, x) = x; def h(, x, ) = x; def o( = 8;", [][2]string{
		{"f(5, 3)", "2"}, {"f(f(9, 1), f(2, 1))", "7"}, {"k()", "7"}, {"g(1)", "2"}, {"(fun(x) => x)(3)", "3"}, {"(fun() => 4)()", "4"},
		{"f", "fun"}, {"[f, g, k]", "[fun, fun, fun]"}, {"let h = f in h(3, 1)", "2"},
		// what stands around a fun stays with it
		{"(fun(x) => fun(y) => [x, y])(1)(2)", "[1, 2]"}, {"let a = fun(x) => fun(y) => x - y in let b = a(5) in let x = 100 in b(1)", "4"},
		{"let x = 1 in let f = fun() => x in let x = 2 in f()", "1"}, {"(fun(x) => (fun(x) => x)(x + 1) * x)(3)", "12"},
		{"let t = fun(f) => fun(x) => f(f(x)) in t(t)(g)(0)", "4"}, {"(fun(f, x) => f(f, x))(fun(f, n) => if n == 0 then 0 else n + f(f, n - 1), 4)", "10"},
		// of another count
		{"f(1)", "ErrStuck"}, {"f(1, 2, 3)", "ErrStuck"}, {"f()", "ErrStuck"}, {"k(1)", "ErrStuck"}, {"(fun() => 1)(2)", "ErrStuck"}, {"g()", "ErrStuck"},
		{"1(2)", "ErrStuck"}, {"[](1)", "ErrStuck"}, {`"f"(1)`, "ErrStuck"}, {"true()", "ErrStuck"}, {"k()()", "ErrStuck"},
		// of two names that are the same the first counts
		{"s(1, 2)", "1"}, {"(fun(x, y, x, y) => [x, y])(1, 2, 3, 4)", "[1, 2]"}, {"s(1)", "ErrStuck"},
		// one that is missing is a parameter, too
		{"h(1, 2, 3)", "2"}, {"h(2)", "ErrStuck"}, {"o(1)", "8"}, {"o()", "ErrStuck"}, {"(fun => 9)(1)", "9"}, {"(fun(,) => 9)(1, 2)", "9"},
		{"f(1,)", "ErrStuck"}, {"k(", "ErrStuck"}, {"f(3, 1", "2"}, {"(3", "3"}, {"[3", "[3]"}, // a bracket that is missing is no expression
	})
}

func TestV2Names(t *testing.T) {
	asked(t, [][]string{
		{"def main = nothing;", "ErrStuck"},
		{"def main = if true then 1 else nothing;", "1"},
		{"def main = f(1); def f(x) = nothing;", "ErrStuck"},
		{"def main = [f, f]; def f = 1 + 1;", "[2, 2]"},
		{"def main = f + 1; def f = 1; def f = 2;", "2"}, // the first one has the name
		{"def main = f; def f(x) = 1; def f = 2;", "fun"},
		{"def main = (fun(main) => main)(1);", "1"},
		{"def f(f) = f; def main = f(f(2));", "2"},
		{"use b.x; def main = x + 1;", "pub def x = 2;", "3"},
		{"use b.x; def main = x + 1;", "def x = 2;", "ErrStuck"},
		{"use b.y; def main = y + 1;", "pub def x = 2;", "ErrStuck"},
		{"use b.x as y; def main = [y, x];", "pub def x = 2;", "ErrStuck"},
		{"use b.x as y; def main = [y, z(3)]; use c.z;", "pub use c.x;", "pub def x = [z(1), y]; pub def z(n) = n + y; def y = 10;", "[[11, 10], 13]"},
		{"use a.x; def main = x;", "ErrStuck"}, // a ring
		{"use b.f; pub def main = f(3); pub def g(n) = n * 2;", "use a.g; pub def f(x) = let y = 5 in g(x) + y;", "11"},
		{"use b.b; def main = b;", "pub def b = a; def a = 3;", "3"},
		{"def main = b;", "pub def b = 1;", "ErrStuck"},
		{"def main = x; use b.x; def x = 1;", "pub def x = 2;", "2"},
		{"def main = x; def x = 1; use b.x;", "pub def x = 2;", "1"},
		{"def x = y; def y = 1; def main = let y = 2 in x;", "1"}, // what stands around a name does not stand around its def
		{"def f(y) = x; def x = y; def main = f(1);", "ErrStuck"},
	})
}

func TestV2WhatIsMissing(t *testing.T) {
	expressions(t, "", [][2]string{
		{"", "ErrStuck"}, {"?", "ErrStuck"}, {"1 +", "ErrStuck"}, {"+ 1", "ErrStuck"}, {"()", "ErrStuck"}, {"= 1", "ErrStuck"}, {"@", "ErrStuck"}, {`"`, "ErrStuck"},
		{"fun(x) =>", "fun"}, {"fun", "fun"}, {"(fun(x) =>)(1)", "ErrStuck"}, {"- 1", "ErrStuck"},
		{strings.Repeat("(", api.MaxNest) + "1", "1"}, {strings.Repeat("(", api.MaxNest+1) + "1", "ErrStuck"},
	})
	asked(t, [][]string{{"def main 1;", "1"}, {"def main = 1", "1"}, {"pub main = 1;", "1"}, {"main = 1;", "ErrName"}, {"\xff def main = 1;", "1"}, {"def main = 1 2;", "1"}, {"def main", "ErrStuck"}})
}

func TestV3CallsAndDefs(t *testing.T) {
	need(t, "def main = 1;", 1, "1")
	need(t, "def main = let x = [1 + 2 * 3, fun() => 1] in if true then x else 2;", 1, "[7, fun]") // nothing of this takes any
	need(t, "def main = f; def f(x) = x;", 1, "fun")
	need(t, "def main = f(1); def f(x) = x;", 2, "1")
	need(t, "def main = (fun() => 1)();", 2, "1")
	need(t, "def main = f(f(f(1))); def f(x) = x;", 4, "1")
	need(t, "def main = x; def x = y; def y = 1;", 3, "1")
	need(t, "def main = [x, x, x]; def x = y; def y = 1;", 7, "[1, 1, 1]") // each time
	need(t, "def main = let y = x in [y, y, y]; def x = 1;", 2, "[1, 1, 1]")
	need(t, "def main = f(x, x); def f(a, b) = a + a + b; def x = 1;", 4, "3")
	need(t, "def main = if x then x else y; def x = false; def y = 1;", 3, "1")
	need(t, "def main = f(0)(1)(2); def f(x) = fun(y) => fun(z) => x + y + z;", 4, "3")
	need(t, "def main = x(1); def x = f; def f(n) = if n == 0 then 1 else x(n - 1);", 5, "1")
}

func TestV3Comparisons(t *testing.T) {
	need(t, "def main = 1 == 1;", 1, "true")
	need(t, "def main = \"a\" == \"a\";", 1, "true")
	need(t, "def main = [] == [];", 1, "true")
	need(t, "def main = [1, 2, 3] == [1, 2];", 1, "false") // they are not as long: no part is compared
	need(t, "def main = [1, 2, 3] == [1, 2, 3];", 4, "true")
	need(t, "def main = [1, 2, 3] == [1, 0, 3];", 3, "false") // behind the second one nothing is
	need(t, "def main = [0, 2, 3] == [1, 2, 3];", 2, "false")
	need(t, "def main = [[1], [2, 3], []] == [[1], [2, 3], []];", 7, "true")
	need(t, "def main = [[1, 2], 3] == [[1], 3];", 2, "false")
	need(t, "def main = [[1, 2], 3] == [[1, 3], 3];", 4, "false")
	need(t, "def main = [[[[]]]] == [[[[]]]];", 4, "true")
	need(t, "def main = [1, true] == [1, 2];", 3, "ErrStuck") // each is taken ahead of its comparison
	need(t, "def f(x) = x; def main = [f] == [f];", 2, "ErrStuck")
	need(t, "def l = [1, 2]; def main = let m = l in [m == m, m == l];", 7, "[true, true]") // also of a list with itself
	if got := told(t, files("def main = f == f; def f(x) = x;"), 0, "main", 1); got != "ErrStuck" {
		t.Errorf("functions: %s", got)
	}
}

func TestV3DefsThatComeToThemselves(t *testing.T) {
	for _, text := range []string{
		"def main = main;", "def main = [main];", "def main = x; def x = main;", "def main = f(1); def f(x) = f(x + 1);", "def main = (fun(x) => x(x))(fun(x) => x(x));",
		"def main = 1 + main;", "def main = if true then main else 1;", "def main = let x = main in 1;", "def main = f() == 1; def f() = main;",
		"use a.main as m; def main = m;",
	} {
		for _, fuel := range []int{0, 1, 2, 3, 100, api.MaxFuel} {
			if got := told(t, files(text), 0, "main", fuel); got != "ErrLong" {
				t.Errorf("%s with %d: %s", text, fuel, got)
			}
		}
	}
	need(t, "def main = f(0); def f(n) = if n < 97 then f(n + 1) else n;", 99, "97")
}

func TestV3AllOfTheFuel(t *testing.T) {
	count := strconv.Itoa(api.MaxFuel - 2)
	in := files("def main = f(" + count + "); def f(n) = if n == 0 then 1 else f(n - 1);")
	if got := told(t, in, 0, "main", api.MaxFuel); got != "1" {
		t.Errorf("got %s", got)
	}
	if got := told(t, in, 0, "main", api.MaxFuel-1); got != "ErrLong" {
		t.Errorf("got %s", got)
	}
}

func TestV4Texts(t *testing.T) {
	expressions(t, bounds, [][2]string{
		{"0 - 5", "-5"}, {"5 - 5", "0"}, {"[1, [true, []], \"a\", neg, 0 - 2]", `[1, [true, []], "a", fun, -2]`}, {"[[], [[]]]", "[[], [[]]]"},
		{`"\u{1}\u{1f}\u{7f}\u{a0}\t"`, "\"\\u{1}\\u{1f}\\u{7f}\u00a0\\t\""}, {`["\"", "\\", "\n"]`, `["\"", "\\", "\n"]`},
		{"\"\xff\x80é\"", "\"\xff\x80é\""}, {"\"\r\"", `"\u{d}"`},
	})
}

func TestV4TextsThatAreTooLong(t *testing.T) {
	ones := func(count int, last string) string { return "[" + strings.Repeat("1,", count) + last + "]" }
	newlines := `def l = "` + strings.Repeat(`\n`, 3333) + `"; def main = l ++ l ++ l`
	for _, c := range []struct {
		text string
		long int // 0: too long
	}{
		{"def main = " + ones(6665, "111") + ";", api.MaxFile},
		{"def main = " + ones(6665, "1111") + ";", 0},
		{"def main = " + ones(6665, "true") + ";", 0},
		{"def main = " + ones(6665, "[[]]") + ";", 0},
		{"def main = " + ones(6665, "fun()=>1") + ";", api.MaxFile},
		{"def main = " + ones(6665, `"x"`) + ";", api.MaxFile},
		{"def main = " + ones(6665, `"\n"`) + ";", 0},
		{"def main = " + ones(6666, "11") + ";", 0},
		{"def main = t;" + half(api.MaxFile-2), api.MaxFile},
		{"def main = t;" + half(api.MaxFile-1), 0},
		{"def main = [t];" + half(api.MaxFile-4), api.MaxFile},
		{"def main = [t];" + half(api.MaxFile-3), 0},
		{newlines + ";", api.MaxFile}, // each of them is two bytes
		{newlines + ` ++ "x";`, 0},
		{`def main = d(d(d("` + strings.Repeat(`é`, 1249) + `"))); def d(s) = s ++ s;`, 2*8*1249 + 2},
	} {
		got, err := Eval(files(c.text), 0, "main", 10)
		if c.long == 0 && (got != "" || !errors.Is(err, api.ErrFull)) || c.long > 0 && (err != nil || len(got) != c.long) {
			t.Errorf("%.30q .. %.30q: %d bytes, %v", c.text, c.text[len(c.text)-30:], len(got), err)
		}
	}
}

// What comes in stays as it is, and what is answered hangs on nothing else.
func TestV1Memory(t *testing.T) {
	in := files("use b.f; def main = [f(\"x\"), l == l]; def l = [1, \"a\" ++ \"b\"];", "pub def f(s) = s ++ s ++ \"é\";", "no")
	before := slices.Clone(in)
	for range 3 {
		if got := told(t, in[:2], 0, "main", 6); got != `["xxé", true]` {
			t.Errorf("got %s", got)
		}
		if got := told(t, in[:2], 0, "main", 5); got != "ErrLong" {
			t.Errorf("got %s", got)
		}
	}
	if !reflect.DeepEqual(in, before) {
		t.Errorf("the files have become %v", in)
	}
}

func TestV1AtOnce(t *testing.T) {
	in := files("def f(n) = if n == 0 then 1 else n * f(n - 1); def main = [f(5), f(20)]; def x = main == [120, f(3)];")
	var all sync.WaitGroup
	for range 8 {
		all.Go(func() {
			for range 50 {
				if got, err := Eval(in, 0, "main", 28); err != nil || got != "[120, 2432902008176640000]" {
					t.Errorf("got %s, %v", got, err)
				}
				if got, err := Eval(in, 0, "x", 35); err != nil || got != "false" {
					t.Errorf("got %s, %v", got, err)
				}
			}
		})
	}
	all.Wait()
}
