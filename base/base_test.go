package base

import (
	"errors"
	"fmt"
	"math"
	"slices"
	"strings"
	"sync"
	"testing"

	"amanuensis/api"
	"amanuensis/infer"
	"amanuensis/scope"
)

// filesOf gives files of texts; they are called a, b, c ..
func filesOf(texts ...string) []api.File {
	var all []api.File
	for i, t := range texts {
		all = append(all, api.File{Name: string(rune('a' + i)), Text: t})
	}
	return all
}

// begin begins with files of texts.
func begin(t *testing.T, texts ...string) *Base {
	t.Helper()
	b, err := New(filesOf(texts...))
	if err != nil {
		t.Fatalf("%q: %v", texts, err)
	}
	return b
}

// change replaces a piece of a file, which stands there once.
func change(t *testing.T, b *Base, file int, old, text string) {
	t.Helper()
	whole := b.Files()[file].Text
	if strings.Count(whole, old) != 1 {
		t.Fatalf("%q stands in %q %d times", old, whole, strings.Count(whole, old))
	}
	at := strings.Index(whole, old)
	patch(t, b, file, api.Span{From: at, To: at + len(old), Text: text})
}

// patch changes a file by spans.
func patch(t *testing.T, b *Base, file int, spans ...api.Span) {
	t.Helper()
	if err := b.Change(api.Patch{File: file, Spans: spans}); err != nil {
		t.Fatalf("%v: %v", spans, err)
	}
}

// number gives that of an error; nothing else may be one.
func number(t *testing.T, err error) api.Errno {
	t.Helper()
	if err == nil {
		return api.OK
	}
	var e api.Errno
	if !errors.As(err, &e) || e == api.OK {
		t.Fatalf("%v", err)
	}
	return e
}

// all is all that a base tells without being asked.
func all(b *Base) string {
	s := fmt.Sprint(b.Files(), b.Names(), b.Looked())
	for file, f := range b.Files() {
		for at := range len(f.Text) + 1 {
			n, ok := b.Where(file, at)
			s += fmt.Sprint(n, ok, b.Uses(file, at))
		}
	}
	return s
}

func TestB1NewsFaults(t *testing.T) {
	long := strings.Repeat(" ", api.MaxFile+1)
	for _, c := range []struct {
		files []api.File
		err   api.Errno
	}{
		{nil, api.OK},
		{filesOf(""), api.OK},
		{filesOf(make([]string, api.MaxFiles)...), api.OK},
		{filesOf(make([]string, api.MaxFiles+1)...), api.ErrFull},
		{filesOf(long[1:], ""), api.OK},
		{filesOf("", long), api.ErrFull},
		{[]api.File{{Name: "1"}, {Name: "a", Text: long}}, api.ErrFull},
		{[]api.File{{Name: "1"}, {Name: "a"}, {Name: "a"}}, api.ErrName},
		{[]api.File{{Name: "a"}, {Name: "a"}, {Name: "1"}}, api.ErrTwice},
		{[]api.File{{Name: "use"}}, api.ErrName},
		{[]api.File{{Name: ""}}, api.ErrName},
	} {
		b, err := New(c.files)
		if number(t, err) != c.err || (b == nil) != (err != nil) {
			t.Errorf("%.60s: %v, want %v; %v", fmt.Sprint(c.files), err, c.err, b != nil)
		}
		if err == nil && !slices.Equal(b.Files(), c.files) {
			t.Errorf("%.60s: other files", fmt.Sprint(c.files))
		}
	}
}

func TestB1Changes(t *testing.T) {
	for _, c := range []struct {
		spans []api.Span
		want  string
	}{
		{nil, "abcd"},
		{[]api.Span{}, "abcd"},
		{[]api.Span{{From: 0, To: 0}}, "abcd"},
		{[]api.Span{{From: 1, To: 2, Text: "X"}, {From: 2, To: 2, Text: "Y"}}, "aXYcd"},
		{[]api.Span{{From: 2, To: 2, Text: "1"}, {From: 2, To: 2, Text: "2"}, {From: 2, To: 3, Text: "3"}, {From: 3, To: 3, Text: "4"}}, "ab1234d"},
		{[]api.Span{{From: 0, To: 4}}, ""},
		{[]api.Span{{From: 0, To: 1, Text: "é"}, {From: 4, To: 4, Text: "\xff\x00"}}, "ébcd\xff\x00"},
		{[]api.Span{{From: 0, To: 0, Text: "def x = "}, {From: 0, To: 4, Text: "1;"}}, "def x = 1;"},
	} {
		b := begin(t, "other", "abcd", "third")
		patch(t, b, 1, c.spans...)
		if want := filesOf("other", c.want, "third"); !slices.Equal(b.Files(), want) {
			t.Errorf("%v: %v, want %v", c.spans, b.Files(), want)
		}
	}
}

// Pieces that are near each other, and far from each other, do what they say.
func TestB1ManyPieces(t *testing.T) {
	for _, between := range []int{0, 1, 7, near - 1, near, near + 1, 3 * near} {
		text, want := "", ""
		var spans []api.Span
		for i := range 12 {
			name := string(rune('a' + i))
			spans = append(spans, api.Span{From: len(text) + 4, To: len(text) + 5, Text: name + name})
			text += "def " + name + " = x" + strings.Repeat(" ", between) + ";"
			want += "def " + name + name + " = x" + strings.Repeat(" ", between) + ";"
		}
		b := begin(t, text)
		patch(t, b, 0, spans...)
		same(t, b, filesOf(want))
	}
}

func TestB1Faults(t *testing.T) {
	fits := strings.Repeat("x", api.MaxFile-4)
	ordered := []api.Span{{From: 0, To: 3}, {From: 2, To: 4}}
	for _, c := range []struct {
		file  int
		spans []api.Span
		err   api.Errno
	}{
		{-1, nil, api.ErrRange},
		{2, nil, api.ErrRange},
		{math.MaxInt, nil, api.ErrRange},
		{math.MinInt, nil, api.ErrRange},
		{2, ordered, api.ErrRange},
		{0, []api.Span{{From: -1, To: 0}}, api.ErrRange},
		{0, []api.Span{{From: 2, To: 1}}, api.ErrRange},
		{0, []api.Span{{From: 0, To: 5}}, api.ErrRange},
		{0, []api.Span{{From: 5, To: 5}}, api.ErrRange},
		{0, []api.Span{{From: math.MinInt, To: math.MaxInt}}, api.ErrRange},
		{0, ordered, api.ErrOrder},
		{0, append(slices.Clone(ordered), api.Span{From: 4, To: 5}), api.ErrRange},
		{0, []api.Span{{From: 3, To: 4}, {From: 0, To: 1}}, api.ErrOrder},
		{0, []api.Span{{From: 0, To: 3, Text: fits + fits}, {From: 2, To: 4}}, api.ErrOrder},
		{0, []api.Span{{From: 0, To: 0, Text: fits + "y"}}, api.ErrFull},
		{0, []api.Span{{From: 0, To: 1, Text: fits + "yz"}}, api.ErrFull},
		{0, []api.Span{{From: 0, To: 0, Text: fits}, {From: 4, To: 4, Text: "y"}}, api.ErrFull},
		{0, []api.Span{{From: 0, To: 0, Text: fits}}, api.OK},
		{0, []api.Span{{From: 0, To: 0, Text: fits + "y"}, {From: 3, To: 4}}, api.OK},
		{0, []api.Span{{From: 0, To: 4, Text: fits + "yzyz"}}, api.OK},
	} {
		b := begin(t, "def ", "def x = y;")
		before := all(b)
		if err := number(t, b.Change(api.Patch{File: c.file, Spans: c.spans})); err != c.err {
			t.Errorf("%d, %.60s: %v, want %v", c.file, fmt.Sprint(c.spans), err, c.err)
		}
		if c.err != api.OK && all(b) != before {
			t.Errorf("%d, %.60s: something was changed", c.file, fmt.Sprint(c.spans))
		}
	}
}

// A change that is refused makes nothing be looked for, and what was found stays.
func TestB1RefusedChanges(t *testing.T) {
	b := begin(t, "def x = 1; def y = x;")
	b.Types()
	before := all(b)
	for _, p := range []api.Patch{
		{File: 1},
		{File: 0, Spans: []api.Span{{From: 8, To: 9, Text: "true"}, {From: 8, To: 10}}},
		{File: 0, Spans: []api.Span{{From: 8, To: 9, Text: "true"}, {From: 30, To: 30}}},
		{File: 0, Spans: []api.Span{{From: 8, To: 9, Text: strings.Repeat(" ", api.MaxFile)}}},
	} {
		if b.Change(p) == nil || all(b) != before || b.Looked() != 2 {
			t.Errorf("%.60s: %s", fmt.Sprint(p), all(b))
		}
	}
	if same(t, b, filesOf("def x = 1; def y = x;")); b.Looked() != 0 {
		t.Errorf("%d looked at", b.Looked())
	}
}

// same holds all that a base tells of its files against what is told of them anew.
func same(t *testing.T, b *Base, files []api.File) {
	t.Helper()
	names, err := scope.Resolve(files)
	if err != nil {
		t.Fatal(err)
	}
	types, _ := infer.Types(files)
	if got := b.Files(); !slices.Equal(got, files) {
		t.Fatalf("files:\ngot  %q\nwant %q", got, files)
	}
	if got := b.Names(); !slices.Equal(got, names) {
		t.Fatalf("%q: names:\ngot  %v\nwant %v", files, got, names)
	}
	if got := b.Types(); !slices.Equal(got, types) {
		t.Fatalf("%q: types:\ngot  %v\nwant %v", files, got, types)
	}
}

func TestB2NamesAndTypes(t *testing.T) {
	b := begin(t, "use b.x; pub def y(x) = x;", "use a.y as z; pub use b.z as x;")
	same(t, b, filesOf("use b.x; pub def y(x) = x;", "use a.y as z; pub use b.z as x;"))
	change(t, b, 1, "pub ", "")
	same(t, b, filesOf("use b.x; pub def y(x) = x;", "use a.y as z; use b.z as x;"))
	change(t, b, 0, "= x", "= [?, x + 1, true]")
	same(t, b, filesOf("use b.x; pub def y(x) = [?, x + 1, true];", "use a.y as z; use b.z as x;"))
	change(t, b, 0, ", true", "")
	same(t, b, filesOf("use b.x; pub def y(x) = [?, x + 1];", "use a.y as z; use b.z as x;"))
	patch(t, b, 0, api.Span{From: 0, To: len(b.Files()[0].Text)})
	same(t, b, filesOf("", "use a.y as z; use b.z as x;"))

	none := begin(t)
	if none.Files() != nil || none.Names() != nil || none.Types() != nil || none.Looked() != 0 {
		t.Errorf("of no files: %v", none)
	}
}

func TestB2Notes(t *testing.T) {
	for _, c := range []struct {
		text, want string
	}{
		{"", "[]"},
		{"def x = 1;", "[]"},
		// each kind
		{"1 use", "[{0 1 ErrSyntax} {5 5 ErrHole} {5 5 ErrHole} {5 5 ErrHole} {5 5 ErrHole}]"},
		{"def f(x, x) = y;", "[{9 10 ErrTwice} {14 15 ErrName}]"},
		{"def bad(é) = bad;", "[{4 7 ErrType}]"},
		{"use q.éx; use b.h; use a.z;", "[{4 5 ErrName} {6 9 ErrName} {17 18 ErrHidden} {26 27 ErrRing}]"},
		// at one place: by where they end, then by what is wrong
		{"def f = f(f); def f = f(1)(2 + true);", "[{4 5 ErrType} {18 19 ErrTwice} {18 19 ErrType}]"},
		{"def x =", "[{7 7 ErrHole} {7 7 ErrHole}]"},
		{"def x = $;", "[{7 7 ErrHole} {7 7 ErrHole} {8 9 ErrSyntax} {8 10 ErrSyntax}]"},
		{"$", "[{0 1 ErrSyntax} {0 1 ErrSyntax}]"},
		{"$ $", "[{0 1 ErrSyntax} {0 3 ErrSyntax} {2 3 ErrSyntax}]"},
		// what comes from behind in the tree may stand ahead
		{"def f(y, y) = 1 + f(z; def f = true + 1", "[{4 5 ErrType} {9 10 ErrTwice} {20 21 ErrName} {21 21 ErrHole} {27 28 ErrTwice} {27 28 ErrType} {39 39 ErrHole}]"},
		// names in what is no item count for nothing; a def that has no name has no type, and nobody tells
		{"x y;", "[{0 4 ErrSyntax}]"},
		{"def = 1 + true;", "[{3 3 ErrHole}]"},
	} {
		b := begin(t, c.text, "def h = 1;")
		got, err := b.Notes(0)
		if err != nil || fmt.Sprint(got) != c.want {
			t.Errorf("%q: %v, %v\nwant %s", c.text, got, err, c.want)
		}
		if got, err := b.Notes(1); err != nil || len(got) != 0 {
			t.Errorf("%q: of the other file %v, %v", c.text, got, err)
		}
	}
}

// What is wrong with one file is told of that one, though it comes of another one.
func TestB2NotesOfOtherFiles(t *testing.T) {
	b := begin(t, "use b.x; def y = x + 1;", "pub def x = 1;", "1 + true; def z = q(1 + true);")
	want := func(file int, want string) {
		t.Helper()
		if got, err := b.Notes(file); err != nil || fmt.Sprint(got) != want {
			t.Errorf("%d: %v, %v, want %s", file, got, err, want)
		}
	}
	want(0, "[]")
	want(1, "[]")
	want(2, "[{0 9 ErrSyntax} {14 15 ErrType} {18 19 ErrName}]")
	change(t, b, 1, "1", "true")
	want(0, "[{13 14 ErrType}]")
	change(t, b, 1, "pub ", "")
	want(0, "[{6 7 ErrHidden}]")
	change(t, b, 1, "x", "é")
	want(0, "[{6 7 ErrName}]")
	want(1, "[]")
}

func TestB2NotesOfNoFile(t *testing.T) {
	b := begin(t, "def x = y;", "def z = y;")
	for _, file := range []int{-1, 2, math.MaxInt, math.MinInt} {
		got, err := b.Notes(file)
		if number(t, err) != api.ErrRange || len(got) != 0 || b.Looked() != 0 {
			t.Errorf("%d: %v, %v, %d", file, got, err, b.Looked())
		}
	}
	b.Types()
	if b.Notes(2); b.Looked() != 2 {
		t.Errorf("a question that has no answer is one: %d", b.Looked())
	}
}

func TestB3Where(t *testing.T) {
	text := "use b.x as éy;def f(x1)=x1+ x1"
	b := begin(t, text, "pub def x = 1;x y")
	where := map[int]string{4: "b", 6: "x", 11: "éy", 19: "f", 21: "x1", 25: "x1", 29: "x1"}
	for at := range len(text) + 1 {
		want := -1
		for begins, name := range where {
			if begins <= at && at <= begins+len(name) {
				want = begins
			}
		}
		got, ok := b.Where(0, at)
		if ok != (want >= 0) || ok && got.At != want || !ok && got != (api.Use{}) {
			t.Errorf("at %d: %v, %v, want %d", at, got, ok, want)
		}
		if ok && !slices.Contains(b.Names(), got) {
			t.Errorf("at %d: %v is none of the names", at, got)
		}
	}
	for _, c := range [][2]int{{-1, 4}, {2, 4}, {math.MaxInt, 0}, {math.MinInt, 0}, {0, -1}, {0, len(text) + 1}, {0, math.MaxInt}, {0, math.MinInt}, {1, 14}, {1, 15}, {1, 17}} {
		if got, ok := b.Where(c[0], c[1]); ok || got != (api.Use{}) {
			t.Errorf("%v: %v", c, got)
		}
		if got := b.Uses(c[0], c[1]); len(got) != 0 {
			t.Errorf("%v: %v", c, got)
		}
	}
	if got, ok := b.Where(1, 9); !ok || got != (api.Use{File: 1, At: 8, As: api.UDef, ToFile: 1, To: 8}) {
		t.Errorf("in the other file: %v, %v", got, ok)
	}
	if b.Looked() != 0 {
		t.Errorf("to ask for names is not to ask for types: %d", b.Looked())
	}
}

// Names follow the changes.
func TestB3WhereBehindChanges(t *testing.T) {
	b := begin(t, "def f = g;")
	if _, ok := b.Where(0, 9); !ok {
		t.Error("g is not there")
	}
	change(t, b, 0, "g", "1")
	if got, ok := b.Where(0, 9); ok {
		t.Errorf("%v is no more", got)
	}
	change(t, b, 0, "def", "  def")
	if got, ok := b.Where(0, 7); !ok || got.At != 6 {
		t.Errorf("%v, %v", got, ok)
	}
}

func TestB3Uses(t *testing.T) {
	b := begin(t,
		"use b.x as u; use b.x; use b; use b.q; def f(x) = x + u(f, none);",
		"pub def x(y) = y + x; def x = x; use a.f; use b.x as w;")
	for _, c := range []struct {
		file, at int
		want     string
	}{
		{0, 6, "0:6 0:11 0:20 0:54 1:8 1:19 1:30 1:48 1:53"}, // x of b
		{0, 12, "0:6 0:11 0:20 0:54 1:8 1:19 1:30 1:48 1:53"},
		{0, 54, "0:6 0:11 0:20 0:54 1:8 1:19 1:30 1:48 1:53"},
		{1, 9, "0:6 0:11 0:20 0:54 1:8 1:19 1:30 1:48 1:53"},
		{0, 45, "0:45 0:50"}, // the parameter
		{0, 50, "0:45 0:50"},
		{0, 43, "0:43 0:56"},
		{1, 26, "1:26"}, // the second x, for which no other name stands
		{0, 4, ""},      // b is a file
		{0, 5, ""},
		{0, 36, ""}, // q stands for nothing
		{0, 60, ""}, // nor does `none`
		{1, 39, ""}, // f of a is hidden
		{0, 3, ""},  // no name
	} {
		var got []string
		for _, n := range b.Uses(c.file, c.at) {
			got = append(got, fmt.Sprint(n.File, ":", n.At))
			if !slices.Contains(b.Names(), n) {
				t.Errorf("%v is none of the names", n)
			}
		}
		if strings.Join(got, " ") != c.want {
			t.Errorf("%d:%d: %v, want %s", c.file, c.at, got, c.want)
		}
	}
}

// What is handed in may be changed later on, and so may what came out.
func TestP2ListsAreTheCallers(t *testing.T) {
	files := filesOf("def x = y;", "1")
	b, _ := New(files)
	files[0] = api.File{Name: "z", Text: "other"}
	spans := []api.Span{{From: 8, To: 9, Text: "x"}, {From: 9, To: 9, Text: " +1"}}
	patch(t, b, 0, spans...)
	if spans[0] != (api.Span{From: 8, To: 9, Text: "x"}) {
		t.Errorf("%v was written into", spans)
	}
	spans[0].Text, spans[1].Text = "9", "9"
	want := filesOf("def x = x +1;", "1")
	same(t, b, want)
	for range 2 {
		b.Files()[0].Name = "9"
		b.Names()[0].At = 9
		b.Types()[0].Type = "9"
		notes, _ := b.Notes(1)
		notes[0].At = 9
		b.Uses(0, 4)[0].At = 9
		same(t, b, want)
		if notes, _ := b.Notes(1); notes[0] != (api.Note{At: 0, To: 1, Err: api.ErrSyntax}) {
			t.Errorf("%v", notes)
		}
	}
}

// Bases know nothing of each other.
func TestP2ManyBases(t *testing.T) {
	var done sync.WaitGroup
	for range 4 {
		done.Go(func() {
			b, _ := New(filesOf("def x = 1; def y = x;"))
			want := 2
			for range 30 {
				for _, c := range []struct {
					text string
					next int
				}{{"22", 1}, {"true", 2}, {"1", 2}} {
					if b.Types(); b.Looked() != want {
						t.Errorf("%v: %d, want %d", b.Files(), b.Looked(), want)
					}
					end := strings.Index(b.Files()[0].Text, ";")
					b.Change(api.Patch{Spans: []api.Span{{From: 8, To: end, Text: c.text}}})
					want = c.next
				}
			}
		})
	}
	done.Wait()
}
