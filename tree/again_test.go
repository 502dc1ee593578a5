package tree

import (
	"math"
	"reflect"
	"strings"
	"sync"
	"testing"

	"amanuensis/api"
	"amanuensis/plain"
)

// replaced makes a replacement that must come about, holds it against what would be made anew, and gives what came of it and how many kids were read anew.
func replaced(t *testing.T, tree *Tree, s api.Span) (*Tree, int) {
	t.Helper()
	text := tree.Text()
	q, n, err := tree.Replace(s)
	if err != nil || q == nil {
		t.Fatalf("%q, Replace %v: %v", text, s, err)
	}
	checkTree(t, q, text[:s.From]+s.Text+text[s.To:])
	if want := modelAnew(text, s); n != want {
		t.Fatalf("%q, Replace %v: %d read anew, want %d", text, s, n, want)
	}
	checkTree(t, tree, text)
	return q, n
}

// Z3: the tree of a text.
func TestZ3New(t *testing.T) {
	for _, text := range []string{"", " ", "a", "def f(x) = x;\n", "{-", "\xff\"\n", strings.Repeat("use a.b;", 200)} {
		checkTree(t, New(text), text)
	}
}

// Z3: how many are read anew, by numbers. The text has a kid of bytes 0 to 10, one from 10 to 21, one from 21 to 32, and a leaf.
func TestZ3Anew(t *testing.T) {
	const three = "def a = 1;\ndef b = 2;\ndef c = 3;\n"
	for _, c := range []struct {
		text     string
		from, to int
		put      string
		want     int
	}{
		{three, 19, 20, "22", 1},                       // within the second one
		{three, 18, 18, "", 1}, {three, 17, 18, "", 2}, // `def` is next behind the first one, and ends four bytes ahead, or three
		{three, 14, 14, "", 2}, {three, 13, 14, "g", 2}, {three, 15, 16, "x", 2}, {three, 11, 14, "use", 3}, // a token that is next, and changes
		{three, 8, 9, "2", 1}, {three, 0, 3, "use", 2}, {three, 0, 0, " ", 1}, {three, 0, 0, ";", 1}, // the first one
		{three, 9, 10, "", 1}, {three, 10, 10, ";", 2}, {three, 10, 11, "", 2}, {three, 10, 10, " ", 2}, {three, 11, 11, " ", 2}, // between two
		{three, 10, 21, "", 1}, {three, 0, 10, "", 0}, {three, 0, 11, "", 1}, {three, 0, 21, "", 0}, {three, 0, 33, "", 0}, {three, 21, 32, "", 1}, // whole ones taken out
		{three, 30, 31, "", 1}, {three, 32, 32, ";", 2}, {three, 33, 33, ";", 2}, {three, 33, 33, "", 1}, {three, 32, 33, "", 1}, {three, 33, 33, "use", 2}, // at the end
		{three, 0, 33, "def z = 1;", 1}, {three, 0, 0, "{-", 1}, {three, 0, 0, "--", 1}, {three, 16, 16, "\"", 3}, {three, 20, 20, "(", 1},
		{"", 0, 0, "", 0}, {"", 0, 0, " ", 0}, {"", 0, 0, "a", 1}, {"", 0, 0, "a;b;c", 3}, {" ", 1, 1, ";", 1}, {"a", 0, 1, "", 0}, {"-- so\n", 3, 3, "x", 0},
		{"def a = 1          ", 19, 19, ";", 1}, {"def a = 1;          ", 20, 20, ";", 2}, {"def a = 1;          ", 18, 18, " ", 1}, // nothing is next behind it
		{"def a = 1 {- -}      ", 21, 21, "+ 1;", 1}, {"use a.b        use", 18, 18, " c", 2}, {"use a.b        {--} ;", 21, 21, "x", 2}, // what was missing is there
	} {
		_, n := replaced(t, New(c.text), api.Span{From: c.from, To: c.to, Text: c.put})
		if n != c.want {
			t.Errorf("%q, Replace %d %d %q: %d read anew, want %d", c.text, c.from, c.to, c.put, n, c.want)
		}
	}
}

// Z3: pieces put in next to and within kids, and taken out there, at every place of some texts.
func TestZ3EveryPlace(t *testing.T) {
	texts := []string{
		"def a = 1; use b.c;\ndef d(x) = x;", "def a = [1, 2 def b = 3; 4; use", "pub def a=1;pub use b.c;pub", " -- so\ndef a = 1; {- so -} def b = 2; -- so\n", ";;a;;def b=(1;;", "def a = let x = 1 in x; \"t\" def b = if",
	}
	puts := []string{"", " ", "\n", ";", "x", "1", "(", ")", ",", "=", "def", " def ", "use ", "pub", "-", "--", "{-", "-}", "\"", "let ", "\xff"}
	for _, text := range texts {
		tree := New(text)
		for from := 0; from <= len(text); from++ {
			for _, size := range []int{0, 1, 3, 8, len(text)} {
				for _, put := range puts {
					replaced(t, tree, api.Span{From: from, To: min(from+size, len(text)), Text: put})
				}
			}
		}
	}
}

// Z3: what is not there is not replaced, and nothing is changed.
func TestZ3Wrong(t *testing.T) {
	wrong := [][2]int{{-1, 0}, {-1, -1}, {-1, 3}, {0, 9}, {9, 9}, {3, 9}, {2, 1}, {8, 0}, {9, 8}}
	for _, n := range []int{math.MinInt, math.MinInt + 3, -1 << 32, 1 << 32, math.MaxInt - 3, math.MaxInt} {
		wrong = append(wrong, [2]int{n, 1}, [2]int{1, n}, [2]int{n, n})
	}
	tree := New("use a.b;")
	for _, w := range wrong {
		q, n, err := tree.Replace(api.Span{From: w[0], To: w[1], Text: "x"})
		if q != nil || n != 0 || plain.Told(err) != api.ErrRange {
			t.Errorf("Replace %d %d: %v, %d, %v", w[0], w[1], q, n, err)
		}
		checkTree(t, tree, "use a.b;")
	}
	if q, n, err := New("").Replace(api.Span{From: 0, To: 1}); q != nil || n != 0 || plain.Told(err) != api.ErrRange {
		t.Errorf("Replace in an empty text: %v, %d, %v", q, n, err)
	}
}

// Z3: one replacement behind the other.
func TestZ3Chains(t *testing.T) {
	d := dice(4)
	for i := range 300 {
		tree := New(d.text(d.below(20)))
		if i%2 == 0 {
			tree = New(d.good(d.below(6)))
		}
		for range 30 {
			size := len(tree.Text())
			from := d.below(size + 1)
			to := min(size, from+d.below(3)*d.below(12))
			tree, _ = replaced(t, tree, api.Span{From: from, To: to, Text: d.text(d.below(3))})
		}
	}
}

// Z3: pieces taken out of a text and put in again, which makes it what it was.
func TestZ3ThereAndBack(t *testing.T) {
	d := dice(7)
	for range 800 {
		text := d.good(1 + d.below(6))
		tree := New(text)
		from := d.below(len(text) + 1)
		to := from + d.below(min(12, len(text)-from+1))
		without, _ := replaced(t, tree, api.Span{From: from, To: to})
		again, _ := replaced(t, without, api.Span{From: from, To: from, Text: text[from:to]})
		if !reflect.DeepEqual(again.Root(), tree.Root()) {
			t.Fatalf("%q, %d to %d out and in: %s", text, from, to, told(again.Root()))
		}
	}
}

// Z3: in a long text few kids are read anew, wherever something is put in.
func TestZ3Long(t *testing.T) {
	tree := New(strings.Repeat("def f(x) = x + 1;\n", 1500))
	size := len(tree.Text())
	for at := 0; at < size; at += size / 60 {
		q, n, err := tree.Replace(api.Span{From: at, To: at, Text: "y"})
		if err != nil || n > 3 {
			t.Fatalf("at %d: %d read anew, %v", at, n, err)
		}
		if anew := New(q.Text()); !reflect.DeepEqual(q.Root(), anew.Root()) || !reflect.DeepEqual(q.Notes(), anew.Notes()) {
			t.Fatalf("at %d: another tree than anew", at)
		}
	}
}

// P2: a tree that several look at, and make others of, answers all of them alike.
func TestZ3ManyHands(t *testing.T) {
	tree := New(strings.Repeat("def f(x) = [x, \"\u00e9\";\n", 20))
	text := tree.Text()
	var hands sync.WaitGroup
	for k := range 8 {
		hands.Go(func() {
			for at := k; at < len(text); at += 31 {
				q, n, err := tree.Replace(api.Span{From: at, To: at, Text: ";"})
				if err != nil || n == 0 || !reflect.DeepEqual(q.Root(), New(text[:at]+";"+text[at:]).Root()) || len(tree.Notes()) != 20 {
					t.Errorf("Replace at %d: %d, %v", at, n, err)
				}
			}
		})
	}
	hands.Wait()
	checkTree(t, tree, text)
}
