package scope

import (
	"strconv"
	"strings"
	"testing"

	"amanuensis/api"
)

// fill gives a text of as many pieces as have place in a file, the i-th made by a function.
func fill(head string, piece func(i int) string, tail string) (string, int) {
	var out strings.Builder
	out.WriteString(head)
	for i := 0; ; i++ {
		next := piece(i)
		if out.Len()+len(next)+len(tail) > api.MaxFile {
			return out.String() + tail, i
		}
		out.WriteString(next)
	}
}

// n is a short name that no other number has.
func n(i int) string { return "n" + strconv.FormatInt(int64(i), 36) }

// row gives files full of uses, each of which leads to the next one; the last one leads to the name that is given, in the file `end`.
func row() (files []api.File, last string) {
	next := 0
	for f := range api.MaxFiles - 1 {
		name, following := string(rune('a'+f)), string(rune('b'+f))
		if f == api.MaxFiles-2 {
			following = "end"
		}
		// the first one of a file is that by which the file ahead comes to it, the last one that which leads out
		text, count := fill("", func(i int) string {
			return "pub use " + name + "." + n(next+i+1) + " as " + n(next+i) + ";"
		}, "pub use "+following+"."+n(99999)+" as "+n(99999)+";")
		text = strings.Replace(text, following+"."+n(99999)+" as "+n(99999), following+"."+n(next+count+1)+" as "+n(next+count), 1)
		files = append(files, api.File{Name: name, Text: text})
		next += count + 1
	}
	return files, n(next)
}

// A row of uses through all files may end somewhere, or lead back, or to nothing.
func TestN3LongRowOfUses(t *testing.T) {
	files, last := row()
	for _, c := range []struct {
		text       string
		toFile, to int
		err        api.Errno
	}{
		{"pub def " + last + "=1;", len(files), len("pub def "), api.OK},
		{"pub use a." + n(0) + " as " + last + ";", -1, -1, api.ErrRing},
		{"def " + last + "=1;", -1, -1, api.ErrHidden},
		{"", -1, -1, api.ErrName},
	} {
		names, err := Resolve(append(files[:len(files):len(files)], api.File{Name: "end", Text: c.text}))
		if err != nil || len(names) < 10000 {
			t.Fatalf("%d names, %v", len(names), err)
		}
		for _, u := range names {
			if u.As == api.UItem && (u.Err != c.err || u.To != c.to || u.ToFile != c.toFile) {
				t.Fatalf("%s: %v", c.text, u)
			}
		}
	}
}

// Many names in one NParams, all of them there, and twice.
func TestN3ManyParams(t *testing.T) {
	text, count := fill("def f(", func(i int) string { return n(i) + "," }, "n0)=n0;")
	names, err := Resolve(files(text))
	if err != nil || len(names) != count+3 {
		t.Fatalf("%d names, %v", len(names), err)
	}
	twice, last := names[count+1], names[count+2]
	if twice.Err != api.ErrTwice || last.As != api.UVar || last.To != len("def f(") {
		t.Errorf("%v, %v", twice, last)
	}
}

// Calls of calls are nested as deep as the text is long.
func TestN3DeepCalls(t *testing.T) {
	text, count := fill("def f=f", func(int) string { return "(f)" }, ";")
	names, err := Resolve(files(text))
	if err != nil || len(names) != count+2 {
		t.Fatalf("%d names, %v", len(names), err)
	}
	for _, u := range names {
		if u.To != len("def ") || u.Err != api.OK {
			t.Fatalf("%v", u)
		}
	}
}

// Lets within lets, as deep as they can be: each name stands for the innermost.
func TestN3DeepLets(t *testing.T) {
	text := "def f=" + strings.Repeat("let x=x in ", api.MaxNest) + "x;"
	names, err := Resolve(files(text))
	if err != nil || len(names) != 2*api.MaxNest+2 {
		t.Fatalf("%d names, %v", len(names), err)
	}
	let := -1
	for i := 1; i+1 < len(names); i += 2 { // a let, and the x that it names, which is the one around
		if names[i].As != api.ULet || names[i+1].To != let {
			t.Fatalf("%v; the x around is at %d", names[i:i+2], let)
		}
		let = names[i].At
	}
	if end := names[len(names)-1]; end.To != let {
		t.Errorf("%v; the innermost x is at %d", end, let)
	}
}
