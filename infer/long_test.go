package infer

import (
	"strconv"
	"strings"
	"testing"

	"amanuensis/api"
)

// fill gives a text of as many pieces as have place in a file, the i-th made by a function.
func fill(head string, piece func(i int) string, tail string) (string, int) {
	var out strings.Builder
	out.WriteString(head)
	for i := 0; ; i++ {
		next := piece(i)
		if out.Len()+len(next)+len(tail) > api.MaxFile {
			return out.String() + tail, i
		}
		out.WriteString(next)
	}
}

// n is a short name that no other number has.
func n(i int) string { return "n" + strconv.FormatInt(int64(i), 36) }

// found gives types. What would take more than some steps for each byte would not end while the tests may run.
func found(t *testing.T, all []api.File) []api.Typed {
	t.Helper()
	out, err := Types(all)
	if err != nil {
		t.Fatal(err)
	}
	return out
}

// last gives the type of the last def or hole.
func last(t *testing.T, texts ...string) string {
	t.Helper()
	all := found(t, files(texts...))
	return all[len(all)-1].Type
}

func TestY1LongRows(t *testing.T) {
	for _, c := range []struct{ head, piece, tail, want string }{
		{"def f=1", "+1", ";", "int"},
		{"def f=1", "+1", "+true;", ""},
		{"def f=[", "[1],", "[]];", "[[int]]"},
		{"def f=[", "[1],", "1];", ""},
		{"def f=?", "()", ";", ""}, // more parts than there may be
		{"def f=f", "(1)", ";", ""},
		{"def f=g", "()", "+1;", ""},
		{"def f(x)=f(", "x,", "x);", ""},
		{"def f=let x=? in[", "x,", "?];", "a"},
		{"def f=fun(x)=>let y=fun(z)=>x in[", "y(1),", "?];", "a"},
		{"def f=", "?", ";", "a"},
	} {
		text, count := fill(c.head, func(int) string { return c.piece }, c.tail)
		if got := last(t, text); got != c.want || count < 1000 {
			t.Errorf("%s%s..: %.100q, of %d", c.head, c.piece, got, count)
		}
	}
}

// A row of calls may be as long as a type may have parts.
func TestY1RowsOfCalls(t *testing.T) {
	for _, c := range []struct {
		calls int
		want  string
	}{{api.MaxParts - 1, "int"}, {api.MaxParts, ""}} {
		if got := last(t, "def f=g"+strings.Repeat("()", c.calls)+"+1;"); got != c.want {
			t.Errorf("%d calls: %s", c.calls, got)
		}
	}
}

// row gives files full of defs, each of which leads to the next one; the last one leads to the name that is given, in the file `end`.
func row(piece func(name, next string) string) (all []api.File, final string) {
	number := 0
	for f := range api.MaxFiles - 1 {
		name, following := string(rune('a'+f)), string(rune('b'+f))
		if f == api.MaxFiles-2 {
			following = "end"
		}
		text, count := fill("", func(i int) string { return "pub def " + n(number+i) + piece(n(number+i), n(number+i+1)) }, "use "+following+".n9999999;")
		number += count
		text = strings.Replace(text, "n9999999", n(number), 1)
		all = append(all, api.File{Name: name, Text: text})
	}
	return all, n(number)
}

// All defs of all files, one group behind the other, or all of them one.
func TestY2LongRowsOfDefs(t *testing.T) {
	plain, final := row(func(_, next string) string { return "=" + next + ";" })
	calls, called := row(func(_, next string) string { return "(x)=" + next + "(x);" })
	for _, c := range []struct {
		all        []api.File
		text, want string
	}{
		{plain, "pub def " + final + "=1;", "int"},
		{plain, "pub def " + final + "=1+true;", "a"},
		{plain, "use a.n0; pub def " + final + "=n0;", "a"},
		{plain, "use a.n0; pub def " + final + "=if true then 1 else n0;", "int"},
		{plain, "use a.n0; pub def " + final + "=[n0];", ""},
		{calls, "pub def " + called + "(x)=[x];", "(a) -> [a]"},
		{calls, "use a.n0; pub def " + called + "(x)=[n0(x),?];", ""},
		{calls, "use a.n0; pub def " + called + "(x)=if n0(x)==x then x else x;", "(a) -> a"},
		{calls, "use a.n0; pub def " + called + "(x)=if n0(x)==x then 1 else x;", "(int) -> int"},
	} {
		all := append(c.all[:len(c.all):len(c.all)], api.File{Name: "end", Text: c.text})
		out := found(t, all)
		if len(out) < 5000 {
			t.Fatalf("only %d defs", len(out))
		}
		for _, one := range out[:5000] {
			if one.Type != c.want {
				t.Fatalf("%s: %v", c.text, one)
			}
		}
	}
}

// Types that would have more parts than could be counted, where each piece of them is small.
func TestY2TypesThatDouble(t *testing.T) {
	pair := "def p(x)=fun(k)=>k(x,x);"
	params, equal := "", ""
	for i := range 60 {
		params += n(i) + "," + n(100+i) + ","
		equal = n(i+1) + "==(fun()=>p(" + n(i) + "))," + n(101+i) + "==(fun()=>p(" + n(100+i) + "))," + equal
	}
	for _, c := range []struct{ text, want string }{
		{pair + "def f=p(p(p(1)));", "((((((int, int) -> a, (int, int) -> a) -> a) -> a, (((int, int) -> a, (int, int) -> a) -> a) -> a) -> b) -> b"},
		{pair + "def f=" + strings.Repeat("p(", 60) + "1" + strings.Repeat(")", 60) + ";", ""},
		{pair + "def f(x)=" + strings.Repeat("p(", 60) + "x" + strings.Repeat(")", 60) + ";", ""},
		{"def f=" + lets(60) + "1;", ""},
		{pair + "def f(" + params + n(60) + "," + n(160) + ")=[" + equal + n(60) + "==" + n(160) + "];", ""},
		{pair + "def f(" + params + n(60) + "," + n(160) + ")=[" + n(60) + "==" + n(160) + "," + equal + "];", ""},
		{pair + "def f(" + params + n(60) + "," + n(160) + ")=let y=fun(z)=>[" + n(60) + "==" + n(160) + "," + equal + "] in y;", ""},
	} {
		got := last(t, c.text)
		if c.want != "" {
			if strings.Count(got, "int") != 8 {
				t.Errorf("%.100s: %s", c.text, got)
			}
		} else if got != "" {
			t.Errorf("%.100s: %.200s", c.text, got)
		}
	}
}

// lets gives lets within each other, each of which brings a function that doubles what the one ahead did.
func lets(deep int) string {
	text := "let " + n(0) + "=fun(x)=>fun(k)=>k(x,x) in "
	for i := range deep {
		text += "let " + n(i+1) + "=fun(x)=>" + n(i) + "(" + n(i) + "(x)) in "
	}
	return text
}

// Many names that stand for what is general, and of as many parts as can be.
func TestY2ManyGreatTypes(t *testing.T) {
	great := "pub def f=fun(" + names("x", api.MaxParts-5) + ")=>1;"
	text, count := fill("use a.f; def g=[", func(int) string { return "f," }, "f];")
	in := files(great)
	for i := range 4 {
		in = append(in, api.File{Name: "m" + strconv.Itoa(i), Text: text})
	}
	out := found(t, in)
	if len(out) != 5 || count < 5000 || out[1].Type == "" || out[1].Type != out[4].Type || out[1].Type != "["+out[0].Type+"]" {
		t.Errorf("%d types, %d names: %.200v", len(out), count, out)
	}
	text, _ = fill("def g=let f=fun("+names("x", api.MaxParts-5)+")=>1 in [", func(int) string { return "f," }, "f];")
	if got := last(t, text); got != out[1].Type {
		t.Errorf("%s", got)
	}
	text, _ = fill("use a.f; def g=[", func(int) string { return "fun(x)=>f," }, "?];")
	if got := last(t, great, text); got == "" || strings.Count(got, ",") != api.MaxParts-6 {
		t.Errorf("%s", got)
	}
	text, _ = fill("use a.f; def g=[", func(int) string { return "[[[f]]]," }, "?];")
	if got := last(t, great, text); got != "" {
		t.Errorf("%s", got)
	}
}

// One def with many names, each of which has a great type.
func TestY3LongText(t *testing.T) {
	var params []string
	text := ""
	for i := range 700 {
		params = append(params, n(i))
		text += "g(" + n(i) + "),"
	}
	text = "def g(x)=if x==(fun(" + names("x", api.MaxParts-4) + ")=>1) then 1 else 2;def f(" + strings.Join(params, ",") + ")=[" + text + "?];"
	all := found(t, files(text))
	if got := all[1].Type; strings.Count(got, ",") != 700*(api.MaxParts-4)-1 || !strings.HasSuffix(got, "-> [int]") {
		t.Errorf("%d: .. %s", strings.Count(got, ","), got[max(0, len(got)-50):])
	}
}
