package base

import (
	"runtime"
	"strconv"
	"strings"
	"testing"

	"amanuensis/api"
)

// fill gives a text of as many pieces as have place in a file, the i-th made by a function, and how many these are.
func fill(head string, piece func(i int) string, tail string) (string, int) {
	var out strings.Builder
	out.WriteString(head)
	for i := 0; ; i++ {
		next := piece(i)
		if out.Len()+len(next)+len(tail) > api.MaxFile {
			return out.String() + tail, i
		}
		out.WriteString(next)
	}
}

// n is a short name that no other number has.
func n(i int) string { return "n" + strconv.FormatInt(int64(i), 36) }

// All files full of defs, each of which leads to the one ahead, and the first one of a file to the last one of the file ahead.
func TestB4LongRowOfDefs(t *testing.T) {
	var texts []string
	defs, last := 0, ""
	for f := range api.MaxFiles {
		head := "pub def n0=1 ;"
		if f > 0 {
			head = "use " + string(rune('a'+f-1)) + "." + last + " as p;pub def n0=p ;"
		}
		text, count := fill(head, func(i int) string { return "pub def " + n(i+1) + "=" + n(i) + ";" }, "")
		texts, last, defs = append(texts, text), n(count), defs+count+1
	}
	b := begin(t, texts...)
	b.Types()
	if b.Looked() != defs {
		t.Errorf("%d looked at, want %d", b.Looked(), defs)
	}
	change(t, b, 0, "n0=1 ;", "n0=22;")
	if b.Types(); b.Looked() != 1 {
		t.Errorf("%d looked at, want 1", b.Looked())
	}
	change(t, b, 0, "n0=22;", "n0=\"\";")
	types := b.Types()
	if b.Looked() != defs || types[len(types)-1].Type != "text" {
		t.Errorf("%d looked at, want %d; %v", b.Looked(), defs, types[len(types)-1])
	}
	change(t, b, api.MaxFiles-1, "n0=p ;", "n0=p*1;")
	if notes, err := b.Notes(api.MaxFiles - 1); err != nil || len(notes) != 1 {
		t.Errorf("%d notes, %v", len(notes), err)
	}
}

// All files full of questions and changes: what is not changed is not gone through again and again.
func TestB4ManyChanges(t *testing.T) {
	var texts []string
	for range api.MaxFiles {
		text, _ := fill("def x=1;", func(i int) string { return "def " + n(i) + "=[x];" }, "")
		texts = append(texts, text)
	}
	b := begin(t, texts...)
	b.Types()
	for i := range 40 {
		patch(t, b, i%api.MaxFiles, api.Span{From: 6, To: 7, Text: strconv.Itoa(i % 10)})
		for file := range api.MaxFiles {
			if notes, err := b.Notes(file); err != nil || len(notes) != 0 {
				t.Fatalf("%v, %v", notes, err)
			}
			if b.Looked() > 1 {
				t.Fatalf("%d looked at", b.Looked())
			}
			b.Where(file, 4)
		}
	}
}

// A type may be long, and many keys tell of it; they need not have it.
func TestB4LongTypes(t *testing.T) {
	const many = 1900
	names := make([]string, many)
	for i := range names {
		names[i] = n(i)
	}
	all := strings.Join(names, ",")
	long := "pub def w(" + all + ")=[" + strings.Repeat("[", 60) + "?" + strings.Repeat("]", 60) + "," + all + "];"
	texts, defs := []string{long}, 1
	for range 15 {
		text, count := fill("use a.w;", func(i int) string { return "def " + n(i) + "=w;" }, "")
		texts, defs = append(texts, text), defs+count
	}
	b := begin(t, texts...)
	var before, after runtime.MemStats
	runtime.ReadMemStats(&before)
	types := b.Types()
	runtime.ReadMemStats(&after)
	if len(types[0].Type) < many*100 || types[2].Type != "" || b.Looked() != defs {
		t.Errorf("%d looked at, want %d; a type of %d bytes, %v", b.Looked(), defs, len(types[0].Type), types[2])
	}
	if used := after.TotalAlloc - before.TotalAlloc; used > 1<<30 {
		t.Errorf("%d bytes were used", used)
	}
	change(t, b, 0, "?", "? ")
	if b.Types(); b.Looked() != 1 {
		t.Errorf("%d looked at", b.Looked())
	}
	change(t, b, 0, "? ", "1")
	if b.Types(); b.Looked() != defs {
		t.Errorf("%d looked at, want %d", b.Looked(), defs)
	}
}

// As many pieces as can be, and more of nothing.
func TestB1PiecesWithoutEnd(t *testing.T) {
	text := strings.Repeat(";", api.MaxFile)
	var spans []api.Span
	for i := range api.MaxFile {
		if i%2 == 0 {
			spans = append(spans, api.Span{From: i, To: i + 1, Text: "x"})
		}
		for range 20 {
			spans = append(spans, api.Span{From: i + 1, To: i + 1})
		}
	}
	b := begin(t, text)
	patch(t, b, 0, spans...)
	if want := strings.Repeat("x;", api.MaxFile/2); b.Files()[0].Text != want {
		t.Error("another text")
	}
	var far []api.Span
	for i := 0; i < api.MaxFile; i += near + 2 {
		far = append(far, api.Span{From: i, To: i + 1, Text: "y"})
	}
	patch(t, b, 0, far...)
	want := []byte(strings.Repeat("x;", api.MaxFile/2))
	for _, s := range far {
		want[s.From] = 'y'
	}
	same(t, b, filesOf(string(want)))
}

// Expressions are nested as deep as the text is long.
func TestB2DeepCalls(t *testing.T) {
	text, _ := fill("def f=f", func(int) string { return "(f)" }, ";")
	b := begin(t, text)
	same(t, b, filesOf(text))
	patch(t, b, 0, api.Span{From: len(text) - 1, To: len(text) - 1, Text: "+"}, api.Span{From: len(text) - 1, To: len(text)})
	same(t, b, filesOf(text[:len(text)-1]+"+"))
}
