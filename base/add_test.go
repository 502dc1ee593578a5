package base

import (
	"fmt"
	"slices"
	"strings"
	"testing"

	"amanuensis/api"
)

// add puts one more file behind the others.
func add(t *testing.T, b *Base, name, text string) {
	t.Helper()
	if err := b.Add(api.File{Name: name, Text: text}); err != nil {
		t.Fatalf("%q: %v", name, err)
	}
}

func TestAddIsNewWithOneMore(t *testing.T) {
	b := begin(t)
	var files []api.File
	for i, text := range []string{"use c.z; def x = z; def y = q;", "use a.x; pub def y = x;", "pub def z = ?;", ""} {
		name := string(rune('a' + i))
		add(t, b, name, text)
		files = append(files, api.File{Name: name, Text: text})
		same(t, b, files)
	}
	change(t, b, 2, "?", "1")
	files[2].Text = "pub def z = 1;"
	same(t, b, files)
	if notes, err := b.Notes(0); err != nil || fmt.Sprint(notes) != "[{28 29 ErrName}]" {
		t.Errorf("%v, %v", notes, err)
	}
}

func TestAddFaults(t *testing.T) {
	long := strings.Repeat(" ", api.MaxFile+1)
	full := make([]string, api.MaxFiles)
	for _, c := range []struct {
		before []string
		file   api.File
		err    api.Errno
	}{
		{nil, api.File{Name: "a", Text: long[1:]}, api.OK},
		{nil, api.File{Name: "a", Text: long}, api.ErrFull},
		{nil, api.File{Name: "", Text: long}, api.ErrFull},
		{nil, api.File{Name: ""}, api.ErrName},
		{nil, api.File{Name: "def"}, api.ErrName},
		{full[:2], api.File{Name: "b"}, api.ErrTwice},
		{full[:2], api.File{Name: "c"}, api.OK},
		{full[1:], api.File{Name: "z"}, api.OK},
		{full, api.File{Name: "z"}, api.ErrFull},
		{full, api.File{Name: "a"}, api.ErrFull},
	} {
		b := begin(t, c.before...)
		before := all(b)
		if err := number(t, b.Add(c.file)); err != c.err {
			t.Errorf("%d, %q: %v, want %v", len(c.before), c.file.Name, err, c.err)
		}
		if c.err != api.OK && all(b) != before {
			t.Errorf("%d, %q: something was changed", len(c.before), c.file.Name)
		}
		if want := append(filesOf(c.before...), c.file); c.err == api.OK && !slices.Equal(b.Files(), want) {
			t.Errorf("%d, %q: other files", len(c.before), c.file.Name)
		}
	}
}

// What does not hang on a file that comes is not looked at anew.
func TestB4LooksAtWhatIsAdded(t *testing.T) {
	b := begin(t, "use b.x; def y = x; def z = 1;")
	want := func(want int) {
		t.Helper()
		if b.Types(); b.Looked() != want {
			t.Errorf("%v: %d looked at, want %d", b.Files(), b.Looked(), want)
		}
	}
	want(2)
	add(t, b, "c", "pub def x = 1;")
	want(1)
	add(t, b, "b", "pub use c.x; def q = 1;")
	want(2) // y stands for something now
	if b.Add(api.File{Name: "b"}) == nil {
		t.Error("twice")
	}
	want(0)
}

// Files that come while others are changed and asked for.
func TestAddAgainstTheModel(t *testing.T) {
	d := dice(16)
	for range 150 {
		var s slow
		b := begin(t)
		for i, f := range append(d.files(), d.files()...) {
			f.Name = d.pick("a b c q é use")
			want := api.OK
			switch {
			case f.Name == "use":
				want = api.ErrName
			case slices.ContainsFunc(s.files, func(o api.File) bool { return o.Name == f.Name }):
				want = api.ErrTwice
			default:
				s.files = append(s.files, f)
			}
			if got := number(t, b.Add(f)); got != want {
				t.Fatalf("%q, %d: %v: %v, want %v", s.files, i, f, got, want)
			}
			for range 3 {
				if len(s.files) == 0 {
					break
				}
				d.ask(t, b, &s)
				p := d.patch(s.files)
				if got, want := number(t, b.Change(p)), s.change(p); got != want {
					t.Fatalf("%q, %v: %v, want %v", s.files, p, got, want)
				}
			}
		}
	}
}
