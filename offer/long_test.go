package offer

import (
	"strconv"
	"strings"
	"testing"
	"time"

	"amanuensis/api"
)

// soon gives the answer to a question, whose place is marked, and fails if that takes long.
func soon(t *testing.T, texts ...string) []string {
	t.Helper()
	files, file, at := marked(t, texts...)
	begin := time.Now()
	names, err := Complete(files, file, at)
	if spent := time.Since(begin); spent > 20*time.Second {
		t.Errorf("%.40q took %v", texts[0], spent)
	}
	if err != nil {
		t.Errorf("%.40q: %v", texts[0], err)
	}
	return names
}

// n is a short name that no other number has.
func n(i int) string { return "n" + strconv.FormatInt(int64(i), 36) }

// filled gives as many pieces as have place between two texts, the i-th made by a function, and how many these are.
// Names that may be put in have place beside them.
func filled(most int, head string, piece func(i int) string, tail string) (string, int) {
	var out strings.Builder
	out.WriteString(head)
	for i := 0; ; i++ {
		next := piece(i)
		if out.Len()+len(next)+len(tail)+10 > most {
			return out.String() + tail, i
		}
		out.WriteString(next)
	}
}

func has(t *testing.T, names []string, count int) {
	t.Helper()
	if len(names) != count {
		t.Errorf("%d names, want %d", len(names), count)
	}
}

// A file full of defs, each of which fits.
func TestO1ManyDefs(t *testing.T) {
	text, count := filled(api.MaxFile, "def f=«?+1;", func(i int) string { return "def " + n(i) + "=1;" }, "")
	has(t, soon(t, text), count+1)
	text, count = filled(api.MaxFile, "def f=«?+1;", func(i int) string { return "def " + n(i) + "=\"\";" }, "")
	has(t, soon(t, text), 1)
	text, count = filled(api.MaxFile, "def f=«?;", func(i int) string { return "use b.x as " + n(i) + ";" }, "")
	has(t, soon(t, text, "pub def x=1;"), count+1)
}

// The def is much of the file, and the rest of it has many names.
func TestO1LongDefs(t *testing.T) {
	long, _ := filled(api.MaxFile/8, "def f=[«?", func(int) string { return ",1" }, "]==[];")
	more, count := filled(api.MaxFile/2, "", func(i int) string { return "def " + n(i) + "=1;" }, "")
	has(t, soon(t, long+more), count)
	row, _ := filled(api.MaxFile/8, "def f=«?", func(int) string { return "+1" }, ";")
	has(t, soon(t, row+more), count+1)
	calls, _ := filled(api.MaxFile/8, "def f=«?", func(int) string { return "(1)" }, ";")
	if files, file, at := marked(t, calls+more); ask(t, files, file, at) != "ErrType" { // it has too many parts
		t.Errorf("%.40q has a type", calls)
	}
}

// Defs that lead to each other, all of them to that of the `?`: with each name some of them become a group.
func TestO1LongRowOfDefs(t *testing.T) {
	row, count := filled(api.MaxFile, "def n0=«?;", func(i int) string { return "def " + n(i+1) + "=" + n(i) + ";" }, "")
	has(t, soon(t, row), count+1)
	row, count = filled(api.MaxFile, "def n0=«?;def z=[n0];def ", func(i int) string { return n(i+1) + "=" + n(i) + ";def " }, "x=z;")
	has(t, soon(t, row), count+1)
}

// All defs of a file are a group already.
func TestO1LongRingOfDefs(t *testing.T) {
	ring, count := filled(api.MaxFile, "def e=if true then n0 else «?;", func(i int) string { return "def " + n(i) + "=" + n(i+1) + ";" }, "")
	ring = ring[:strings.LastIndex(ring, "=")] + "=e;"
	has(t, soon(t, ring), count+1)
}

// Parameters without end.
func TestO1ManyParams(t *testing.T) {
	text, count := filled(api.MaxFile/4, "def f(x", func(i int) string { return "," + n(i) }, ")=[«?+1];")
	has(t, soon(t, text), count+1)
	text, count = filled(api.MaxFile/4, "def f(«?", func(i int) string { return "," + n(i) }, ")=n0;") // each would be there twice
	has(t, soon(t, text), 1)
}

// Lets within lets, as deep as they can be.
func TestO1DeepLets(t *testing.T) {
	text := ""
	for i := range api.MaxNest {
		text += "let " + n(i) + "=" + strconv.Itoa(i) + " in "
	}
	has(t, soon(t, "def f="+text+"«?;"), api.MaxNest+1)
	has(t, soon(t, "def f="+text+"\"\"++«?;"), 1)
}

// The name of a `let` was missing, behind which many of those stand that are put in.
func TestO1ManyNamesThatWereMissing(t *testing.T) {
	long, some := filled(api.MaxFile/4, "def f=let «? 5 in[", func(i int) string { return n(i) + "," }, "1];")
	more, count := filled(api.MaxFile/4, "", func(i int) string { return "def " + n(i) + "=1;" }, "def z=\"\";")
	has(t, soon(t, long+more), count+2)
	if some < count {
		t.Errorf("%d names in the list, %d defs", some, count)
	}
	has(t, soon(t, strings.Replace(long, "1];", "n0++z];", 1)+more), 0)
}

// Files full of defs that are one group.
func TestO1ManyFiles(t *testing.T) {
	texts := []string{"use b.n0 as next;pub def n0=if true then next else «?;def x=n0;def y=[n0];"}
	for i := range api.MaxFiles - 1 {
		head := "use " + string(rune('a'+(i+2)%api.MaxFiles)) + ".n0 as next;pub "
		text, _ := filled(api.MaxFile, head, func(i int) string { return "def " + n(i) + "=" + n(i+1) + ";" }, "")
		texts = append(texts, text[:strings.LastIndex(text, "=")]+"=next;")
	}
	if got := soon(t, texts...); strings.Join(got, " ") != "n0 next x" {
		t.Errorf("%v", got)
	}
}
