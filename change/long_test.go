package change

import (
	"fmt"
	"strings"
	"testing"
	"time"

	"amanuensis/api"
)

// soon fails, if something takes long.
func soon(t *testing.T, what string, do func()) {
	t.Helper()
	begin := time.Now()
	do()
	if spent := time.Since(begin); spent > 10*time.Second {
		t.Errorf("%s took %v", what, spent)
	}
}

// filled gives pieces of a kind between two texts, as many as a file can have.
func filled(ahead, piece, behind string) string {
	return ahead + strings.Repeat(piece, (api.MaxFile-len(ahead)-len(behind))/len(piece)) + behind
}

func TestC2InManyFiles(t *testing.T) {
	texts := []string{filled("pub def «x = [", "x,", "x];")}
	for range api.MaxFiles - 1 {
		texts = append(texts, filled("use a.x;def y=[", "x,", "x];"))
	}
	soon(t, "rename", func() {
		if got, want := rename(t, "z", texts...), strings.NewReplacer("«", "", "x", "z").Replace(strings.Join(texts, "|")); got != want {
			t.Errorf("%.60q", got)
		}
	})
	soon(t, "rename to what is too long", func() {
		if got := rename(t, strings.Repeat("z", api.MaxWord), texts...); got != "ErrFull" {
			t.Errorf("%.60q", got)
		}
	})
	soon(t, "rename to what clashes, and is too long", func() {
		last := texts[len(texts)-1]
		texts[len(texts)-1] = strings.Replace(last, strings.Repeat("x,", 30), "fun("+strings.Repeat("z", api.MaxWord)+")=>x,", 1)
		if got := rename(t, strings.Repeat("z", api.MaxWord), texts...); got != "ErrClash" {
			t.Errorf("%.60q", got)
		}
	})
}

func TestC3OfLongTexts(t *testing.T) {
	row := filled("def f(x) = «x", "+x", "")
	row = row[:len(row)-60]
	soon(t, "a row", func() {
		sum := row[strings.Index(row, "«")+len("«"):]
		if got, want := extract(t, "h", row+"«;"), "def h(x) = "+sum+";\ndef f(x) =  h(x) ;"; got != want {
			t.Errorf("%.60q", got)
		}
	})
	soon(t, "the first one of a row", func() {
		text := strings.Replace(row, "«x+", "«x«+", 1)
		if got := extract(t, "h", text+";"); !strings.HasPrefix(got, "def h(x) = x;\ndef f(x) =  h(x) +x+x") {
			t.Errorf("%.60q", got)
		}
	})
	var names []string
	for i := range 2000 {
		names = append(names, fmt.Sprintf("%c%c", 'A'+i/26%26, 'A'+i%26)+strings.Repeat("_", i/676))
	}
	soon(t, "many outer names", func() {
		list := strings.Join(names[:1000], ",")
		want := "(" + strings.Join(names[:1000], ", ") + ")"
		if got := extract(t, "h", "def f("+list+")=«["+list+"]«;"); got != "def h"+want+" = ["+list+"];\ndef f("+list+")= h"+want+" ;" {
			t.Errorf("%.60q", got)
		}
	})
	soon(t, "too many", func() {
		list := strings.Join(names, ",")
		if got := extract(t, "h", "def f("+list+")=«["+list+"]«;"); got != "ErrFull" {
			t.Errorf("%.60q", got)
		}
	})
}

func TestC4OfLongTexts(t *testing.T) {
	half := strings.Repeat("y,", api.MaxFile/5)
	soon(t, "a great value that is used often", func() {
		if got := inline(t, "def f(y)=let «x=fun()=>["+half+"y] in ["+strings.ReplaceAll(half, "y", "x")+"x];"); got != "ErrFull" {
			t.Errorf("%.60q", got)
		}
	})
	soon(t, "a great value that is caught", func() {
		if got := inline(t, "def f(y)=let «x=fun()=>["+half+"y] in ["+strings.ReplaceAll(half, "y", "x")+"fun(y)=>x];"); got != "ErrClash" {
			t.Errorf("%.60q", got)
		}
	})
	soon(t, "a great value that is not used", func() {
		if got := inline(t, "def f(y)=let «x=fun()=>["+half+"y] in ["+half+"y];"); got != "def f(y)=["+half+"y];" {
			t.Errorf("%.60q", got)
		}
	})
	soon(t, "a row", func() {
		row := strings.Repeat("x+", api.MaxFile/5)
		if got := inline(t, "def f(y)=let «x=y in "+row+"x;"); got != "def f(y)="+strings.ReplaceAll(row, "x", "(y)")+"(y);" {
			t.Errorf("%.60q", got)
		}
	})
	soon(t, "names around names", func() {
		around, many := strings.Repeat("let y=1 in [", 20), strings.Repeat("x,", 4000)
		if got, want := inline(t, "def f(z)=let «x=z in "+around+many), "def f(z)="+around+strings.ReplaceAll(many, "x", "(z)"); got != want {
			t.Errorf("%.60q", got)
		}
		if got := inline(t, "def f(y)=let «x=y in "+around+many); got != "ErrClash" {
			t.Errorf("%.60q", got)
		}
	})
}

func TestC5OfLongTexts(t *testing.T) {
	soon(t, "calls within calls", func() {
		text, want := "1", "1"
		for range api.MaxNest - 2 {
			text, want = "f("+text+",2)", "f(2,"+want+")"
		}
		many, wants := "", ""
		for len(many)+len(text) < api.MaxFile-100 {
			many += text + ","
			wants += want + ","
		}
		if got := order(t, []int{1, 0}, "def «f(x,y)=["+many+"1];"); got != "def f(y,x)=["+wants+"1];" {
			t.Errorf("%.60q", got)
		}
	})
	soon(t, "a row of calls", func() {
		text := strings.Repeat("f(1,2)+", api.MaxFile/7-5)
		if got := order(t, []int{1, 0}, "def «f(x,y)="+text+"1;"); got != "def f(y,x)="+strings.ReplaceAll(text, "1,2", "2,1")+"1;" {
			t.Errorf("%.60q", got)
		}
	})
	soon(t, "many names", func() {
		var numbers []int
		var names, parts []string
		for i := range 1200 {
			numbers = append(numbers, 1199-i)
			names = append(names, fmt.Sprint("x", i))
			parts = append(parts, fmt.Sprint(i))
		}
		was := "def «f(" + strings.Join(names, ",") + ")=f(" + strings.Join(parts, ",") + ");"
		for i := range 600 {
			names[i], names[1199-i] = names[1199-i], names[i]
			parts[i], parts[1199-i] = parts[1199-i], parts[i]
		}
		if got, want := order(t, numbers, was), "def f("+strings.Join(names, ",")+")=f("+strings.Join(parts, ",")+");"; got != want {
			t.Errorf("%.60q", got)
		}
		if got := order(t, append(numbers, make([]int, 1<<20)...), was); got != "ErrRange" {
			t.Errorf("%.60q", got)
		}
	})
}

// Any bytes: no call panics, and what is told is an error of the program's or a change.
func TestP1AnyBytes(t *testing.T) {
	d := dice(3)
	for range 400 {
		text := ""
		for range d.roll(60) {
			text += d.pick("def pub use let in if then else fun f x y ( ) [ ] , ; = => == + . ? 1 \"s\" \xff \xc3 é -- {- -} \"") + d.space()
		}
		s := slowOf(filesOf(text, "use a.f; def k = f(1, 2);"))
		for range 12 {
			asked, p, err, want, wrong := d.ask(s)
			if number(t, err) != wrong || err == nil && fmt.Sprint(patched(t, s.files, p)) != fmt.Sprint(want) {
				t.Fatalf("%q: %s: %v, %v, want %q, %v", text, asked, p, err, want, wrong)
			}
		}
	}
}
