package desk

import (
	"fmt"
	"math"
	"slices"
	"strconv"
	"strings"
	"testing"

	"amanuensis/api"
)

// What goes out, byte by byte.
func TestD2Frames(t *testing.T) {
	d := New()
	say(t, d, opens("a", "def f(x) = x + 1; def g = f(2); def k = ?;"), asks(-7, "types", inA), asks(4, "hover", ""))
	want := "Content-Length: 68\r\n\r\n{\"id\":-7,\"result\":[[4,\"(int) -> int\"],[22,\"int\"],[36,\"a\"],[40,\"a\"]]}" +
		"Content-Length: 26\r\n\r\n{\"id\":4,\"error\":\"ErrName\"}"
	if got := d.Work(2); got != want {
		t.Errorf("got  %q\nwant %q", got, want)
	}
}

// The bytes of the length are those of the body, whatever stands in it.
func TestD2LengthIsBytes(t *testing.T) {
	play(t, right(1, "\"def é = \\\"\xff\x7f😀\\\";\\n\""), opens("a", "def é=\"\xff\x7f😀\";"), asks(1, "layout", inA))
}

func TestD2Work(t *testing.T) {
	for _, c := range []struct {
		n, done int
	}{{math.MinInt, 0}, {-1, 0}, {0, 0}, {1, 1}, {2, 2}, {3, 3}, {4, 3}, {math.MaxInt, 3}} {
		d := New()
		say(t, d, asks(5, "x", ""), asks(3, "x", ""), asks(4, "x", ""))
		var want []string
		for _, id := range []int{5, 3, 4}[:c.done] {
			want = append(want, wrong(id, api.ErrName))
		}
		if got := answers(t, d, c.n); got != strings.Join(want, " ") || d.Waiting() != 3-c.done {
			t.Errorf("%d: %s, %d wait", c.n, got, d.Waiting())
		}
	}
	play(t, "(0) (0) (1) "+wrong(1, api.ErrName)+" (0) (0) "+wrong(2, api.ErrName)+" (1) "+wrong(2, api.ErrName)+" (0)",
		"0", "1", asks(1, "x", ""), "0", "9", "9", asks(2, "x", ""), asks(2, "x", ""), "1", "1")
}

// Of several errors the first one is told.
func TestD2OrderOfErrors(t *testing.T) {
	touch := changes("a", 1, 0, 0, " ")
	for _, c := range []struct {
		ask  string
		want api.Errno
	}{
		{asks(1, "hover", ""), api.ErrName},
		{asks(1, "hover", `"file":"b"`), api.ErrName},
		{asks(1, "hover", inA), api.ErrName},
		{`{"id":1,"method":"hover"}`, api.ErrName},
		{`{"id":1,"method":""}`, api.ErrName},
		{`{"id":1,"method":"Layout","params":{"file":"a"}}`, api.ErrName},
		{asks(1, "eval", `"file":"b","fuel":1`), api.ErrSyntax},
		{asks(1, "eval", `"file":"a","name":"x"`), api.ErrSyntax},
		{asks(1, "eval", `"name":"x","fuel":99999`), api.ErrSyntax},
		{asks(1, "eval", `"file":"b","name":"x","fuel":99999`), api.ErrRange},
		{asks(1, "eval", `"file":"a","name":"x","fuel":99999`), api.ErrStale},
		{asks(1, "complete", `"file":"a","at":-1`), api.ErrStale},
		{asks(1, "layout", inA), api.ErrStale},
	} {
		play(t, wrong(1, c.want), opens("a", "def = 1;"), c.ask, touch)
		play(t, wrong(1, api.ErrCancel), opens("a", "def = 1;"), c.ask, touch, cancels(1))
	}
}

// wants has what each method asks for, beside a file.
func wants() map[string][]string {
	return map[string][]string{"notes": nil, "types": nil, "find": {"at"}, "uses": {"at"}, "place": {"at"}, "rename": {"at", "name"},
		"complete": {"at"}, "layout": nil, "colours": nil, "eval": {"name", "fuel"}}
}

// Something is missing, or of another kind; what is not asked for may be anything.
func TestD2Lacks(t *testing.T) {
	given := map[string]string{"file": `"a"`, "at": "1000", "name": `"x"`, "fuel": "5"}
	for method, more := range wants() {
		asked := append([]string{"file"}, more...)
		try := func(given map[string]string, want bool) {
			t.Helper()
			var params []string
			for key, value := range given {
				params = append(params, quote(key)+":"+value)
			}
			d := New()
			say(t, d, opens("a", ""), asks(1, method, strings.Join(params, ",")))
			if got := answers(t, d, 1); (got == wrong(1, api.ErrSyntax)) != want {
				t.Errorf("%s, %v: %s", method, params, got)
			}
		}
		with := func(key, value string) map[string]string {
			all := map[string]string{}
			for k, v := range given {
				all[k] = v
			}
			if all[key] = value; value == "" {
				delete(all, key)
			}
			return all
		}
		try(given, false)
		for key, value := range given {
			isAsked := slices.Contains(asked, key)
			for _, other := range []string{"", "null", "true", "[]", "{}", "[" + value + "]", `{"` + key + `":` + value + "}"} {
				try(with(key, other), isAsked)
			}
			if value[0] == '"' {
				try(with(key, "1"), isAsked)
			} else {
				try(with(key, quote(value)), isAsked)
			}
		}
		for _, params := range []string{"", `,"params":null`, `,"params":[]`, `,"params":"file"`, `,"params":1`, `,"params":true`, `,"params":{}`, `,"file":"a","at":0,"name":"x","fuel":1`} {
			play(t, wrong(1, api.ErrSyntax), opens("a", ""), `{"id":1,"method":"`+method+`"`+params+"}")
		}
	}
}

// tell asks for something of files, the first of which is called a, the next one b and so on, and holds the answer against what is wanted.
func tell(t *testing.T, want, method, params string, texts ...string) {
	t.Helper()
	var steps []string
	for i, text := range texts {
		steps = append(steps, opens(string(rune('a'+i)), text))
	}
	if strings.HasPrefix(want, "Err") {
		want = `{"id":1,"error":"` + want + `"}`
	} else {
		want = right(1, want)
	}
	play(t, want, append(steps, asks(1, method, params))...)
}

func TestD2Notes(t *testing.T) {
	tell(t, "[]", "notes", inA, "")
	tell(t, "[]", "notes", inA, "def x = 1;", "def y = $;")
	tell(t, `[[0,1,"ErrSyntax"],[5,5,"ErrHole"],[5,5,"ErrHole"],[5,5,"ErrHole"],[5,5,"ErrHole"]]`, "notes", inA, "1 use")
	tell(t, `[[4,5,"ErrType"],[9,10,"ErrTwice"],[16,17,"ErrName"]]`, "notes", inA, "def f(x, x) = 1(y);")
	tell(t, `[[6,7,"ErrHidden"],[13,14,"ErrName"],[14,14,"ErrHole"],[14,14,"ErrHole"]]`, "notes", inA, "use b.x; use q;", "def x = 1;")
	tell(t, `[[4,5,"ErrName"],[6,7,"ErrName"]]`, "notes", `"file":"b"`, "$", "use c.x;")
}

func TestD2Types(t *testing.T) {
	tell(t, "[]", "types", inA, "")
	tell(t, "[]", "types", inA, "use b.x;", "pub def x = 1;")
	tell(t, `[[4,"(a) -> a"],[19,"int"],[38,null],[52,"(bool, a) -> [a]"],[81,"[a]"]]`, "types", inA,
		"def id(x) = x; def k = id(id)(3); def f(x) = f; def g(x, y) = if x then [y] else ?;")
	tell(t, `[[4,null],[13,null]]`, "types", inA, "def x = 1 + [?, true];")
	tell(t, `[[13,"text"]]`, "types", `"file":"b"`, "pub def x = \"\";", "use a.x; def y = x;", "def z = 1;")
}

func TestD2Find(t *testing.T) {
	a, b := "use b.x as y; def f(p) = let l = p in y(l, q, f);", "def k = 1; pub def x = k; use a.f;"
	at := func(file string, at int) string { return `"file":"` + file + `","at":` + strconv.Itoa(at) }
	for _, c := range []struct {
		file string
		at   int
		want string
	}{
		{"a", 6, `["b",19]`}, {"a", 7, `["b",19]`}, {"a", 11, `["b",19]`}, {"a", 38, `["b",19]`}, // x, y
		{"a", 18, `["a",18]`}, {"a", 47, `["a",18]`}, // f
		{"a", 20, `["a",20]`}, {"a", 33, `["a",20]`}, {"a", 34, `["a",20]`}, // p
		{"a", 29, `["a",29]`}, {"a", 40, `["a",29]`}, // l
		{"a", 43, "null"},                                     // q stands for nothing
		{"a", 4, "null"}, {"a", 5, "null"}, {"b", 30, "null"}, // b, a are files
		{"b", 32, "null"}, {"b", 33, "null"}, // f of a is hidden
		{"a", 0, "null"}, {"a", 3, "null"}, {"a", 22, "null"}, {"a", 49, "null"}, {"a", 50, "null"}, {"a", -1, "null"}, {"a", 999999999999999999, "null"}, // no name
		{"b", 4, `["b",4]`}, {"b", 23, `["b",4]`},
	} {
		tell(t, c.want, "find", at(c.file, c.at), a, b)
	}
	// of two that have the name the second one stands for itself
	tell(t, `["a",15]`, "find", at("a", 15), "def x = 1; def x = 2;")
	tell(t, "null", "find", at("a", 0), "")
	tell(t, "null", "find", at("a", 0), "x;") // a name of no item
}

func TestD2Uses(t *testing.T) {
	a, b := "use b.x as y; def f(p) = y(p);", "pub def x(z) = x; def y = 1;"
	at := func(n int) string { return inA + `,"at":` + strconv.Itoa(n) }
	for n, want := range map[int]string{
		6: `[["a",6],["a",11],["a",25],["b",8],["b",15]]`, 25: `[["a",6],["a",11],["a",25],["b",8],["b",15]]`,
		20: `[["a",20],["a",27]]`, 28: `[["a",20],["a",27]]`, 18: `[["a",18]]`,
		4: "[]", 0: "[]", -5: "[]", 1000: "[]",
	} {
		tell(t, want, "uses", at(n), a, b)
	}
	tell(t, "[]", "uses", at(8), "def x = q;")
}

func TestD2Place(t *testing.T) {
	text := "aé😀\nx"
	for n, want := range map[int]string{
		-1: "[0,0,0]", 0: "[0,0,0]", 1: "[0,1,1]", 2: "[0,1,1]", 3: "[0,2,2]", 5: "[0,2,2]", 7: "[0,3,4]", 8: "[1,0,0]", 9: "[1,1,1]", 10: "[1,1,1]",
		-999999999999999999: "[0,0,0]", 999999999999999999: "[1,1,1]",
	} {
		tell(t, want, "place", inA+`,"at":`+strconv.Itoa(n), text)
	}
}

func TestD2Rename(t *testing.T) {
	a, b, c := "use b.x; def f(p) = x(p);", "pub def x(z) = \"\t\"; def y = x;", "def other = 1;"
	rename := func(at int, name string) string {
		return fmt.Sprintf(`"file":"a","at":%d,"name":%s`, at, quote(name))
	}
	tell(t, `[["a","use b.é; def f(p) = é(p);"],["b","pub def é(z) = \"\t\"; def y = é;"]]`, "rename", rename(6, "é"), a, b, c)
	tell(t, `[["a","use b.x; def f(zz) = x(zz);"]]`, "rename", rename(15, "zz"), a, b, c)
	tell(t, "[]", "rename", rename(6, "x"), a, b, c)
	tell(t, "ErrRange", "rename", rename(0, "w"), a, b, c)
	tell(t, "ErrRange", "rename", rename(4, "w"), a, b, c)
	tell(t, "ErrRange", "rename", rename(-1, "1"), a, b, c)
	tell(t, "ErrName", "rename", rename(6, "def"), a, b, c)
	tell(t, "ErrName", "rename", rename(6, ""), a, b, c)
	tell(t, "ErrName", "rename", rename(6, strings.Repeat("w", api.MaxWord+1)), a, b, c)
	tell(t, "ErrClash", "rename", rename(6, "y"), a, b, c)
	tell(t, "ErrClash", "rename", rename(15, "x"), a, b, c)
	tell(t, "ErrFull", "rename", rename(4, "xy"), "def x = 1;"+strings.Repeat(" ", api.MaxFile-10))
	// nothing is changed by it
	play(t, right(1, `[["a","def y = 1;"]]`)+" "+right(2, `"def x = 1;\n"`), opens("a", "def x = 1;"), asks(1, "rename", rename(4, "y")), asks(2, "layout", inA))
}

func TestD2Complete(t *testing.T) {
	text := "def f(x, b) = if b then ? + 1 else x; def g = 2; def h = true; def bad = ? + true;"
	at := func(n int) string { return inA + `,"at":` + strconv.Itoa(n) }
	tell(t, `["bad","g","x"]`, "complete", at(24), text)
	tell(t, "[]", "complete", at(14), "def f() = 1 + ?;")
	tell(t, `["f"]`, "complete", at(17), "use b.x; def f = ?;", "def x = 1;")
	tell(t, `["f","x"]`, "complete", at(17), "use b.x; def f = ?;", "pub def x = 1;")
	tell(t, "ErrRange", "complete", at(23), text)
	tell(t, "ErrRange", "complete", at(-1), text)
	tell(t, "ErrRange", "complete", at(1000), text)
	tell(t, "ErrType", "complete", at(73), text)
}

func TestD2Layout(t *testing.T) {
	tell(t, `""`, "layout", inA, "")
	tell(t, `""`, "layout", inA, " \n")
	tell(t, `"-- \"so\"\ndef f(x) = [x, (x)(1)];\n{- \r\t\\ -}\n"`, "layout", inA, "def f(x)=-- \"so\"\n[x,(x)(1)]; {- \r\t\\ -}")
	tell(t, `"def x = q + true;\n"`, "layout", inA, "def x = q+true;")
	tell(t, "ErrSyntax", "layout", inA, "def x = ;")
	tell(t, "ErrSyntax", "layout", `"file":"b"`, "", "x;")
	tell(t, `""`, "layout", inA, "", "x;")
}

func TestD2Colours(t *testing.T) {
	tell(t, "[]", "colours", inA, " ")
	tell(t, "[0,0,3,1,0,4,1,7,0,1,1,5,0,1,1,8,0,1,1,5,0,2,1,5,1,2,1,8,0,1,1,5]", "colours", inA, "def f(x) =\n  x;")
	tell(t, "[0,0,3,1,0,4,1,10,0,1,1,5,0,1,1,11,0,1,1,5,0,2,1,13,0,2,4,3,0,4,1,5]", "colours", inA, "use b.x; q \"😀\";", "pub def x = 1;")
	tell(t, "[0,0,3,1,0,4,1,10,0,1,1,5,0,1,1,12,0,1,1,5]", "colours", inA, "use b.x;", "def x = 1;")
}

func TestD2Eval(t *testing.T) {
	text := "def f(n) = if n == 0 then 1 else n * f(n - 1); def x = [f(5), 2]; def t = \"\\n\\\"é\"; def loop = loop; def bad = ?; def long = g(\"aaaaaaaaaa\", 1);" +
		"def g(s, n) = g(s ++ s, n); def m = 0 - 7; def h = b; use b.y as b;"
	eval := func(name string, fuel int) string {
		return fmt.Sprintf(`"file":"a","name":%s,"fuel":%d`, quote(name), fuel)
	}
	for _, c := range []struct {
		name string
		fuel int
		want string
	}{
		{"x", 7, `"[120, 2]"`}, {"x", 6, "ErrLong"}, {"x", 0, "ErrLong"}, {"t", 1, `"\"\\n\\\"é\""`}, {"loop", 10000, "ErrLong"}, {"bad", 1, "ErrStuck"}, {"long", 10000, "ErrFull"},
		{"m", 1, `"-7"`}, {"h", 2, `"true"`}, {"h", 1, "ErrLong"},
		{"x", -1, "ErrRange"}, {"x", 10001, "ErrRange"}, {"none", -1, "ErrRange"}, {"none", 0, "ErrName"}, {"f", 9, "ErrName"}, {"", 9, "ErrName"}, {"y", 9, "ErrName"}, {"b", 9, "ErrName"},
	} {
		tell(t, c.want, "eval", eval(c.name, c.fuel), text, "pub def y = 1 < 2;")
	}
}

// A file that has been changed, or opened, since the request came.
func TestD2Stale(t *testing.T) {
	given := `"file":"a","at":0,"name":"x","fuel":1`
	for method := range wants() {
		ask := asks(1, method, given)
		d := New()
		say(t, d, opens("a", "def x = 1;"), ask)
		fresh := answers(t, d, 1)
		if fresh == wrong(1, api.ErrStale) {
			t.Errorf("%s: %s", method, fresh)
		}
		open, stale := opens("a", "def x = 1;"), wrong(1, api.ErrStale)
		play(t, stale, open, ask, changes("a", 1, 0, 0, " "))
		play(t, stale, open, ask, changes("a", 1, 0, 0, "")) // a change that changes nothing is one
		play(t, stale, open, ask, changes("a", 1, 0, 0, " "), changes("a", 2, 0, 1, ""))
		play(t, stale, ask, open)
		play(t, wrong(1, api.ErrRange)+" (0)", ask, "1", open)
		// changed ahead of it
		play(t, fresh, open, changes("a", 1, 8, 9, "1"), ask)
		// a change, and a file, that could not be
		play(t, fresh, open, ask, changes("a", 0, 0, 0, " "), changes("a", 1, 9, 8, ""), changes("a", 1, 0, 0, strings.Repeat(" ", api.MaxFile)), changes("b", 1, 0, 0, " "), opens("a", ""), opens("1", ""))
		// another file that is opened and changed
		play(t, fresh, open, ask, opens("b", ""), changes("b", 1, 0, 0, " "))
	}
	// those that came behind the change are not
	ask := func(id int) string { return asks(id, "layout", inA) }
	play(t, strings.Join([]string{wrong(1, api.ErrStale), wrong(2, api.ErrStale), right(3, `"-- 2\n"`), right(4, `"-- 2\n"`), "(0)", wrong(5, api.ErrStale), right(6, `"-- 3\n"`)}, " "),
		opens("a", "-- 0"), ask(1), changes("a", 1, 3, 4, "1"), ask(2), changes("a", 2, 3, 4, "2"), ask(3), ask(4), "4", ask(5), changes("a", 3, 3, 4, "3"), ask(6))
}

// What is told is of the files as they are when it is told; only the file that is asked for must be the one that it was.
func TestD2OtherFilesChange(t *testing.T) {
	a, b := "use b.x; def y = x;", "pub def x = 1;"
	begin := []string{opens("a", a), opens("b", b)}
	toText := changes("b", 1, 12, 13, `"s"`)
	for _, c := range []struct {
		method, more string
		change       string
		before, then string
	}{
		{"types", "", toText, `[[13,"int"]]`, `[[13,"text"]]`},
		{"eval", `,"name":"y","fuel":9`, toText, `"1"`, `"\"s\""`},
		{"notes", "", changes("b", 1, 0, 4, ""), "[]", `[[6,7,"ErrHidden"]]`},
		{"find", `,"at":6`, changes("b", 1, 0, 0, "   "), `["b",8]`, `["b",11]`},
		{"uses", `,"at":6`, changes("b", 1, 0, 0, "   "), `[["a",6],["a",17],["b",8]]`, `[["a",6],["a",17],["b",11]]`},
		{"rename", `,"at":6,"name":"z"`, toText, `[["a","use b.z; def y = z;"],["b","pub def z = 1;"]]`, `[["a","use b.z; def y = z;"],["b","pub def z = \"s\";"]]`},
		{"colours", "", changes("b", 1, 0, 4, ""), "[0,0,3,1,0,4,1,10,0,1,1,5,0,1,1,11,0,1,1,5,0,2,3,1,0,4,1,7,0,2,1,5,0,2,1,7,0,1,1,5]", "[0,0,3,1,0,4,1,10,0,1,1,5,0,1,1,12,0,1,1,5,0,2,3,1,0,4,1,7,0,2,1,5,0,2,1,12,0,1,1,5]"},
		{"layout", "", toText, `"use b.x;\ndef y = x;\n"`, `"use b.x;\ndef y = x;\n"`},
		{"place", `,"at":3`, toText, "[0,3,3]", "[0,3,3]"},
	} {
		ask := asks(1, c.method, inA+c.more)
		play(t, right(1, c.before), append(begin[:2:2], ask)...)
		play(t, right(1, c.then), append(begin[:2:2], ask, c.change)...)
		play(t, right(1, c.then), append(begin[:2:2], c.change, ask)...)
	}
	// one that is opened counts, too
	play(t, right(1, `[[13,"int"]]`), begin[0], asks(1, "types", inA), begin[1])
}

// Desks know nothing of each other.
func TestP2ManyDesks(t *testing.T) {
	one, two := New(), New()
	say(t, one, opens("a", "def x = 1;"), asks(1, "layout", inA))
	say(t, two, asks(1, "layout", inA), cancels(1), opens("a", ""))
	if one.Push("bad\r\n") == nil {
		t.Error("no error")
	}
	say(t, two, asks(2, "layout", inA))
	if got := answers(t, one, 9); got != right(1, `"def x = 1;\n"`) {
		t.Error(got)
	}
	if got := answers(t, two, 9); got != wrong(1, api.ErrCancel)+" "+right(2, `""`) {
		t.Error(got)
	}
}
