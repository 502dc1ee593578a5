package lay

import (
	"strings"
	"testing"
	"time"

	"amanuensis/api"
)

// soon gives the layout of a text, which is there, and fails if that takes long.
func soon(t *testing.T, text string) string {
	t.Helper()
	begin := time.Now()
	laid, err := Layout(text)
	if spent := time.Since(begin); spent > 20*time.Second {
		t.Errorf("%.40q took %v", text, spent)
	}
	if err != nil {
		t.Errorf("%.40q: %v", text, err)
	}
	return laid
}

// same fails if long texts are not the same.
func same(t *testing.T, got, want string) {
	t.Helper()
	if got != want {
		t.Errorf("%d bytes, want %d; %.200q", len(got), len(want), got)
	}
}

// A row, each sum of which is the left part of the next one, as deep as is promised.
func TestL3LongRows(t *testing.T) {
	count := 1<<16 - 1
	same(t, soon(t, "def f = 1"+times(count, "+1")+";"), "def f =\n  1"+times(19, " + 1")+times(count-19, "\n  +\n    1")+";\n")
	same(t, soon(t, "def f = ["+long(80)+times(count, "*x")+"];"), "def f =\n  [\n    "+long(80)+times(count, "\n    *\n      x")+"\n  ];\n")
}

// Calls of calls: all but the last one stay flat.
func TestL3LongRowsOfCalls(t *testing.T) {
	count := 1<<16 - 2
	same(t, soon(t, "def f = g"+times(count, "(1)")+";"), "def f =\n  g"+times(count-1, "(1)")+"(\n    1\n  );\n")
	same(t, soon(t, "def f = g"+times(count, "( )")+";"), "def f =\n  g"+times(count, "()")+";\n")
	same(t, soon(t, "def f = 1"+times(count/2, "(1,(2))+1")+";"),
		"def f =\n  1(1, (2))"+times(5, " + 1(1, (2))")+times(count/2-6, "\n  +\n    1(1, (2))")+"\n  +\n    1;\n")
}

func TestL3LongLists(t *testing.T) {
	count := 1 << 18
	same(t, soon(t, "def f = [1"+times(count, ",1")+"];"), "def f =\n  [\n    1"+times(count, ",\n    1")+"\n  ];\n")
	same(t, soon(t, "def f = g(1"+times(count, ",(1)")+");"), "def f =\n  g(\n    1"+times(count, ",\n    (1)")+"\n  );\n")
	params := "x" + times(count, ", x")
	same(t, soon(t, "def f("+params+")=fun("+params+")=>1;"), "def f("+params+") =\n  fun("+params+") =>\n    1;\n")
}

func TestL1ManyItemsAndRemarks(t *testing.T) {
	count := 1 << 17
	same(t, soon(t, times(count, "def f=1;{--}use a.b;")), times(count, "def f = 1;\n{--}\nuse a.b;\n"))
	same(t, soon(t, "def f="+times(count, "{--}--\n")+"1;"+times(count, "{--}")), times(count, "{--}\n--\n")+"def f = 1;\n"+times(count, "{--}\n"))
}

func TestL3LongTokens(t *testing.T) {
	size := 1 << 22
	text, name := long(size), times(size, "é")
	same(t, soon(t, "def "+name+"="+text+";--"+name), "def "+name+" =\n  "+text+";\n--"+name+"\n")
	same(t, soon(t, "use "+name+" ."+name+";"), "use "+name+"."+name+";\n")
}

// nested gives an expression that stands as deep as it may, each level made of a text ahead and one behind.
func nested(ahead, inner, behind string) string {
	return times(api.MaxNest, ahead) + inner + times(api.MaxNest, behind)
}

func TestL3AsDeepAsCanBe(t *testing.T) {
	for _, kind := range [][2]string{
		{"let x = 1 in ", ""}, {"let x = ", " in 2"}, {"if ", " then 1 else 2"}, {"if 1 then ", " else 2"}, {"if 1 then 2 else ", ""}, {"fun(x) => ", ""},
		{"(", ")"}, {"[", "]"}, {"[1, ", ", 2]"}, {"g(", ")"}, {"g(1, ", ", 2)"}, {"g(1)(", ")()"}, {"(", ")(1)"},
		{"1 + (", ")"}, {"1 * 2 + (", ") * 3 == 4"}, {"1 == 2 + 3 * [", "]"}, {"1 < 2 - (", ")(1)(2)"},
	} {
		check(t, "def f = "+nested(kind[0], "1", kind[1])+";")
		check(t, "def f = "+nested(kind[0], long(70), kind[1])+";")
		wrong(t, "def f = "+nested(kind[0], kind[0]+"1"+kind[1], kind[1])+";")
	}
	same(t, soon(t, "def f = "+nested("fun() => ", "1", "")+";"), deepFuns())
}

// deepFuns is the layout of funs in each other.
func deepFuns() string {
	var out strings.Builder
	out.WriteString("def f =\n")
	for i := range api.MaxNest {
		rest := times(api.MaxNest-i, "fun() => ") + "1"
		if n := 2 + 2*i; n+len(rest)+1 > api.MaxWide {
			out.WriteString(times(n, " ") + "fun() =>\n")
		}
	}
	out.WriteString(times(2+2*api.MaxNest, " ") + "1;\n")
	return out.String()
}

// Long rows within deep brackets, where each line has many blanks.
func TestL3LongRowsDeepWithin(t *testing.T) {
	row := "1" + times(1<<12, "+1")
	n := times(2+2*api.MaxNest, " ")
	laid := soon(t, "def f = "+nested("(", row, ")")+";")
	if want := n + "1" + times(1<<12, "\n"+n+"+\n"+n+"  1") + "\n"; !strings.Contains(laid, want) {
		t.Errorf("%.300q", laid)
	}
	same(t, soon(t, laid), laid)
}
