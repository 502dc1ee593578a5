package value

import (
	"strconv"
	"strings"
	"testing"

	"amanuensis/api"
)

// fill gives a text with as many of a piece as have place in a file.
func fill(head, piece, tail string) (string, int) {
	count := (api.MaxFile - len(head) - len(tail)) / len(piece)
	return head + strings.Repeat(piece, count) + tail, count
}

// comes holds what the def `main` comes to with some fuel against what it should.
func comes(t *testing.T, text string, fuel int, want string) {
	t.Helper()
	if got := told(t, files(text), 0, "main", fuel); got != want {
		t.Errorf("%.80q with %d: got %.80s, want %.80s", text, fuel, got, want)
	}
}

// An expression may be a row as long as a file, and stand in itself as often as there is fuel:
// whoever calls himself for each part of it is in a hundred million calls at once.
func TestV3LongRowsThatComeToThemselves(t *testing.T) {
	for _, c := range []struct{ head, piece, tail string }{
		{"def main=main", "+1", ";"},
		{"def main=main", "*1", ";"},
		{"def main=main", "()", ";"},
		{"def main=f(1);def f(x)=f(x)", "-x", ";"},
		{"def main=f(1);def f(x)=f(x)", "(x)", ";"},
		{"def main=[main", ",1", "];"},
		{"def main=f(1);def f(x)=(fun(y)=>f(y)", "+y", ")(x);"},
	} {
		text, count := fill(c.head, c.piece, c.tail)
		if count < 5000 {
			t.Fatalf("%s: only %d", c.head, count)
		}
		comes(t, text, api.MaxFuel, "ErrLong")
	}
	text, count := fill("def main=f(5000);def f(n)=if n==0 then 0 else f(n-1)", "+1", ";")
	comes(t, text, api.MaxFuel, strconv.Itoa(5000*count))
}

func TestV3DeepExpressionsThatComeToThemselves(t *testing.T) {
	for _, c := range []struct {
		ahead, behind string
		within        int // in how many more each stands
	}{
		{"(", ")", 1}, {"[", "]", 1}, {"1+2*(", ")", 1}, {"let x=1 in ", "", 1}, {"if true then ", " else 1", 1},
		{"if 1<2*[0](", ") then 1 else 2", 2}, {"[1,1<1+1*(", "),2]", 2}, {"1(", ",2)", 1},
	} {
		deep := api.MaxNest / c.within
		text := "def main=" + strings.Repeat(c.ahead, deep) + "main" + strings.Repeat(c.behind, deep) + ";"
		comes(t, text, api.MaxFuel, "ErrLong")
		text = "def main=" + c.ahead + strings.Repeat(c.ahead, deep) + "main" + strings.Repeat(c.behind, deep) + c.behind + ";"
		comes(t, text, api.MaxFuel, "ErrStuck") // too deep: it is missing
	}
	comes(t, "def main=f(9000);def f(n)=if n==0 then 1 else "+strings.Repeat("(0+1*", 60)+"f(n-1)"+strings.Repeat(")", 60)+";", api.MaxFuel, "1")
}

// A list that has another one twice, which has another one twice ..
func TestV4ListsThatGrow(t *testing.T) {
	grow := "def g(n, l) = if n == 0 then l else g(n - 1, [l, l]);"
	comes(t, "def main = g(3, 1);"+grow, 100, "[[[1, 1], [1, 1]], [[1, 1], [1, 1]]]")
	comes(t, "def main = g(60, 1);"+grow, 100, "ErrFull")
	comes(t, "def main = g(9000, []);"+grow, api.MaxFuel, "ErrFull")
	comes(t, "def main = g(60, 1) == g(60, 1);"+grow, api.MaxFuel, "ErrLong")
	comes(t, "def main = g(60, 1) == g(60, 2);"+grow, 1000, "false") // found at the first of all
	comes(t, "def main = let l = g(9, 1) in l == l;"+grow, 10+1+1022, "true")
	comes(t, "def main = let l = g(9, 1) in l == l;"+grow, 10+1+1021, "ErrLong")
}

func TestV4ListsThatAreDeep(t *testing.T) {
	deep := "def d(n, l) = if n == 0 then l else d(n - 1, [l]);"
	comes(t, "def main = d(9998, []);"+deep, api.MaxFuel, strings.Repeat("[", 9999)+strings.Repeat("]", 9999))
	comes(t, "def main = [d(9998, [])];"+deep, api.MaxFuel, strings.Repeat("[", 10000)+strings.Repeat("]", 10000))
	comes(t, "def main = [[d(9998, [])]];"+deep, api.MaxFuel, "ErrFull")
	comes(t, "def main = let l = d(4999, []) in l == l;"+deep, api.MaxFuel, "true")
	comes(t, "def main = let l = d(5000, []) in l == l;"+deep, api.MaxFuel, "ErrLong")
	more := "def d(n, l) = if n == 0 then l else d(n - 1, " + strings.Repeat("[", 60) + "l" + strings.Repeat("]", 60) + ");"
	comes(t, "def main = d(9000, []);"+more, api.MaxFuel, "ErrFull")
	comes(t, "def main = let l = d(9000, []) in l == l;"+more, api.MaxFuel, "ErrLong")
}

// A text may be made of as many as it has bytes, at either end, and of empty ones without end.
func TestV2TextsOfManyPieces(t *testing.T) {
	grow := func(step string) string {
		return "def g(n, s) = if n == 0 then s else g(n - 1, " + step + ");"
	}
	x := strings.Repeat("x", 9000)
	for _, step := range []string{`s ++ "x"`, `"x" ++ s`} {
		comes(t, `def main = g(9000, "");`+grow(step), api.MaxFuel, `"`+x+`"`)
		comes(t, `def main = g(4000, "`+x[:4000]+`") == "`+x[:8000]+`";`+grow(step), api.MaxFuel, "true")
		comes(t, `def main = g(4000, "`+x[:4000]+`") == "`+x[:7999]+`y";`+grow(step), api.MaxFuel, "false")
		comes(t, `def main = g(4000, "`+x[:4000]+`") == "y`+x[:7999]+`";`+grow(step), api.MaxFuel, "false")
	}
	comes(t, `def main = g(5000, "");`+grow(`"y" ++ s ++ "x"`), api.MaxFuel, `"`+strings.Repeat("y", 5000)+x[:5000]+`"`)
	empty, _ := fill(`def main=g(5000,"`+x[:100]+`");def g(n,s)=if n==0 then s else g(n-1,s`, `++""`, ");")
	comes(t, empty, api.MaxFuel, `"`+x[:100]+`"`)
	comes(t, `def main = g(9000, "abc");`+grow("s ++ s"), api.MaxFuel, "ErrFull")
	comes(t, `def main = g(12, "abc") == g(12, "abc");`+grow("s ++ s"), api.MaxFuel, "true")
	comes(t, `def main = g(12, "abc") == g(11, "abcabc");`+grow("s ++ s"), api.MaxFuel, "true")
	comes(t, `def main = g(13, "abc");`+grow("s ++ s"), api.MaxFuel, "ErrFull")
}

// Who writes each of these texts out at once has no memory for them.
func TestV2ManyLongTexts(t *testing.T) {
	long := `def d(s)=s++s;def t=d(d(d("` + strings.Repeat("x", 1200) + `")));`
	many, count := fill(long+"def main=f(t);def f(s)=[", "s++s,", "f(s)];")
	comes(t, many, 1000, "ErrLong")
	same, _ := fill(long+"def main=f(t,t);def f(s,t)=[", "s==t,", "f(s,t)];")
	comes(t, same, 500, "ErrLong")
	if count < 3000 {
		t.Errorf("only %d", count)
	}
}

// More texts are compared than stay written out.
func TestV2TextsThatAreComparedAgain(t *testing.T) {
	defs := `def l="` + strings.Repeat("x", 100) + `";`
	lets, list := "", ""
	for i := range 40 {
		name := "n" + strconv.Itoa(i)
		lets += "let " + name + "=" + strings.Repeat("l++", i%20) + `l++"y" in `
		list += name + "==n0," + name + "==n39," + name + "==" + name + ","
	}
	var want []string
	for i := range 40 {
		want = append(want, strconv.FormatBool(i%20 == 0), strconv.FormatBool(i%20 == 19), "true")
	}
	comes(t, defs+"def main="+lets+"["+list+list+"1];", 1000, "["+strings.Join(append(want, want...), ", ")+", 1]")
}

func TestV2ManyNames(t *testing.T) {
	var names, values []string
	for i := range 1500 {
		names = append(names, "n"+strconv.Itoa(i))
		values = append(values, strconv.Itoa(i))
	}
	f := "def f(" + strings.Join(names, ",") + ")="
	comes(t, f+"[n0,n1499,n700];def main=f("+strings.Join(values, ",")+");", 10, "[0, 1499, 700]")
	comes(t, f+"n0;def main=f("+strings.Join(values[1:], ",")+");", 10, "ErrStuck")
	row, count := fill("def f("+strings.Join(names[:300], ",")+")=0", "+n299", ";def main=f("+strings.Join(values[:300], ",")+");")
	comes(t, row, 10, strconv.Itoa(299*count))
	lets := ""
	for i := range api.MaxNest {
		lets += "let n" + strconv.Itoa(i) + "=" + strconv.Itoa(i) + " in "
	}
	comes(t, "def main="+lets+"n0+n63*1000;", 10, "63000")
	comes(t, "def main="+lets+"[n0];", 10, "ErrStuck") // too many stand around n0
}

// Defs of all files, each of which comes to the next one.
func TestV3LongRowsOfDefs(t *testing.T) {
	const each = 600
	name := func(i int) string { return "n" + strconv.Itoa(i) }
	var all []api.File
	for i := range api.MaxFiles {
		next := (i + 1) * each
		text := "use " + string(rune('b'+i)) + "." + name(next) + ";"
		if i == api.MaxFiles-1 {
			text = "def " + name(next) + "=[7];"
		}
		for j := i * each; j < next; j++ {
			text += "pub def " + name(j) + "=" + name(j+1) + ";"
		}
		all = append(all, api.File{Name: string(rune('a' + i)), Text: text})
	}
	need := api.MaxFiles*each + 1
	if got := told(t, all, 0, name(0), need); got != "[7]" {
		t.Errorf("with %d: %s", need, got)
	}
	if got := told(t, all, 0, name(0), need-1); got != "ErrLong" {
		t.Errorf("with %d: %s", need-1, got)
	}
}
