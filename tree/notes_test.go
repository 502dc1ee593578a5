package tree

import (
	"slices"
	"strings"
	"testing"

	"amanuensis/api"
)

// notesOf tells notes from three numbers each: from, to, and what is wrong.
func notesOf(all ...int) []api.Note {
	var out []api.Note
	for i := 0; i+2 < len(all); i += 3 {
		out = append(out, api.Note{At: all[i], To: all[i+1], Err: api.Errno(all[i+2])})
	}
	return out
}

// Z4: by numbers (3 is ErrSyntax, 9 ErrHole).
func TestZ4(t *testing.T) {
	for text, want := range map[string][]api.Note{
		"def f(x)=g(x;":              notesOf(12, 12, 9),
		"1 use":                      notesOf(0, 1, 3, 5, 5, 9, 5, 5, 9, 5, 5, 9, 5, 5, 9),
		"":                           nil,
		" -- so\n":                   nil,
		"def f(x) = x;":              nil,
		"use a.b as c; -- so":        nil,
		";":                          notesOf(0, 1, 3),
		"  {- so -} a  ":             notesOf(11, 12, 3), // its spaces ahead are not told, nor what is left
		" -- so\n a {--} b ; ":       notesOf(8, 18, 3),
		"a;b;":                       notesOf(0, 2, 3, 2, 4, 3),
		"@":                          notesOf(0, 1, 3, 0, 1, 3), // the junk, then the token
		" a @\u20ac":                 notesOf(1, 7, 3, 3, 4, 3, 4, 7, 3),
		"{- x":                       notesOf(0, 4, 3, 0, 4, 3),
		"def f=\"a\n;":               notesOf(6, 6, 9, 6, 6, 9, 6, 10, 3, 6, 8, 3),
		"def f = ;":                  notesOf(7, 7, 9), // ahead of the blank
		"def ":                       notesOf(3, 3, 9, 3, 3, 9, 3, 3, 9, 3, 3, 9),
		"pub":                        notesOf(3, 3, 9, 3, 3, 9, 3, 3, 9, 3, 3, 9, 3, 3, 9),
		"def f=1 -- so\n":            notesOf(7, 7, 9),
		"def f(,=1;":                 notesOf(6, 6, 9, 7, 7, 9, 7, 7, 9),
		"def f=[1,];":                notesOf(9, 9, 9),
		"def f=1234567890123456789;": notesOf(6, 6, 9, 6, 6, 9, 6, 26, 3, 6, 25, 3),
		"\xff\xfe":                   notesOf(0, 2, 3, 0, 1, 3, 1, 2, 3),
		"use a.b; x use":             notesOf(9, 10, 3, 14, 14, 9, 14, 14, 9, 14, 14, 9, 14, 14, 9),
	} {
		tree := New(text)
		if got := tree.Notes(); !slices.Equal(got, want) {
			t.Errorf("%q: %v, want %v", text, got, want)
		}
		checkTree(t, tree, text)
	}
}

// Z4: from the left, within the text; what is missing has no bytes, all else has.
func TestZ4Order(t *testing.T) {
	d := dice(6)
	for range 4000 {
		text := d.text(d.below(30))
		at := 0
		for _, n := range New(text).Notes() {
			if n.At < at || n.To < n.At || n.To > len(text) || (n.Err == api.ErrHole) != (n.At == n.To) || n.Err != api.ErrHole && n.Err != api.ErrSyntax {
				t.Fatalf("%q: %v", text, New(text).Notes())
			}
			at = n.At
		}
	}
}

// P2: what comes out is the caller's, and no two lists share memory.
func TestZ4Fresh(t *testing.T) {
	text := "def f(x) = [x, ; @ use" + strings.Repeat(" def g = 1;", 3)
	tree := New(text)
	other, _, err := tree.Replace(api.Span{From: len(text), To: len(text), Text: " ;"})
	if err != nil {
		t.Fatal(err)
	}
	for _, one := range []*Tree{tree, other} {
		notes := one.Notes()
		for i := range notes {
			notes[i] = api.Note{}
		}
		spoil(one.Root())
	}
	checkTree(t, tree, text)
	checkTree(t, other, text+" ;")
}

// spoil writes over all kids of a node, and behind them.
func spoil(n api.Node) {
	for _, k := range n.Kids {
		spoil(k)
	}
	all := n.Kids[:cap(n.Kids)]
	for i := range all {
		all[i] = api.Node{Kind: -1, Text: "spoilt"}
	}
}
