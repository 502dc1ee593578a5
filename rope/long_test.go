package rope

import (
	"strings"
	"testing"
)

// dice gives numbers that look as if thrown, the same ones each time.
type dice uint64

func (d *dice) below(n int) int {
	*d = *d*6364136223846793005 + 1442695040888963407
	return int(uint64(*d)>>33) % n
}

// pieces are what long texts are put together from: characters, and bytes that become some beside others.
func pieces() []string {
	return []string{"a", "\n", "\u00e9", "\u20ac", "\U0001f600", "\xf0", "\x9f", "\x98", "\x80", "\xe2", "\x82", "\xac", "\xc3", "\xa9", "\xff", "\xed\xa0", "\xf4\x90"}
}

func (d *dice) text(parts int) string {
	var b strings.Builder
	all := pieces()
	for range parts {
		b.WriteString(all[d.below(len(all))])
	}
	return b.String()
}

// checkTree tells of a node that is not as nodes must be; at is where it begins in the whole text, begins where characters do there.
func checkTree(t *testing.T, n *node, begins []bool, at int) {
	t.Helper()
	if n == nil {
		return
	}
	if n.isLeaf() {
		if n.text == "" || len(n.text) > maxLeaf || n.right != nil || n.height != 0 {
			t.Fatalf("a leaf of %d bytes, height %d", len(n.text), n.height)
		}
		if !begins[at] {
			t.Fatalf("a leaf begins within a character, at %d", at)
		}
		if n.all != measureOf(n.text) {
			t.Fatalf("a leaf is measured wrong: %v", n.all)
		}
		return
	}
	if n.text != "" || n.height != max(n.left.height, n.right.height)+1 || n.all != n.left.all.plus(n.right.all) {
		t.Fatalf("a node is not what its kids are")
	}
	if d := n.left.height - n.right.height; d < -1 || d > 1 {
		t.Fatalf("heights %d and %d", n.left.height, n.right.height)
	}
	checkTree(t, n.left, begins, at)
	checkTree(t, n.right, begins, at+n.left.all.bytes)
}

// checkShape holds a rope's text against one, and looks at its tree.
func checkShape(t *testing.T, r *Rope, text string) {
	t.Helper()
	if whole(r) != text || r.Len() != len(text) || r.Lines() != model(text).lines() {
		t.Fatalf("the rope has not the text that it should have")
	}
	begins := make([]bool, len(text))
	for _, l := range model(text).letters() {
		begins[l.at] = true
	}
	checkTree(t, r.root, begins, 0)
}

// checkRope holds a rope against the model, at some places.
func checkRope(t *testing.T, r *Rope, text string, d *dice) {
	t.Helper()
	checkShape(t, r, text)
	m := model(text)
	for range 4 {
		at, to := d.below(len(text)+3)-1, d.below(len(text)+3)-1
		if got, want := r.Place(at), m.place(at); got != want {
			t.Fatalf("Place(%d): %v, want %v", at, got, want)
		}
		if r.Text(at, to) != m.text(at, to) {
			t.Fatalf("Text(%d, %d) is wrong", at, to)
		}
		c, n := r.Rune(at)
		if want, size := m.char(at); c != want || n != size {
			t.Fatalf("Rune(%d): %U, %d, want %U, %d", at, c, n, want, size)
		}
		line, n := d.below(m.lines()+2)-1, d.below(60)-1
		if got, want := r.At(line, n), m.find(line, n, false); got != want {
			t.Fatalf("At(%d, %d): %d, want %d", line, n, got, want)
		}
		if got, want := r.RuneAt(line, n), m.find(line, n, true); got != want {
			t.Fatalf("RuneAt(%d, %d): %d, want %d", line, n, got, want)
		}
	}
}

// R1 to R5, behind many changes of a text of many leaves.
func TestLongChanges(t *testing.T) {
	d := dice(1)
	for range 12 {
		text := d.text(d.below(6000))
		r := New(text)
		checkRope(t, r, text, &d)
		for range 60 {
			from := d.below(len(text) + 1)
			to := min(len(text), from+d.below(4)*d.below(700))
			put := d.text(d.below(4) * d.below(400))
			q, err := r.Replace(from, to, put)
			if err != nil {
				t.Fatal(err)
			}
			if whole(r) != text {
				t.Fatal("the first rope is not what it was")
			}
			r, text = q, text[:from]+put+text[to:]
			checkRope(t, r, text, &d)
		}
	}
}

// R2, where leaves meet: bytes that come to stand side by side become one character.
func TestCharactersAcrossLeaves(t *testing.T) {
	d := dice(2)
	for _, c := range []string{"\u00e9", "\u20ac", "\U0001f600"} {
		for cut := 1; cut < len(c); cut++ {
			for pad := maxLeaf - 5; pad <= maxLeaf+5; pad++ {
				ahead, behind := strings.Repeat("x", pad)+c[:cut], c[cut:]+strings.Repeat("y", pad)
				r := New(ahead + strings.Repeat("-", 3*maxLeaf) + behind)
				q, err := r.Replace(len(ahead), r.Len()-len(behind), "")
				if err != nil {
					t.Fatal(err)
				}
				checkRope(t, q, ahead+behind, &d)
				if got, n := q.Rune(pad); string(got) != c || n != len(c) {
					t.Fatalf("Rune(%d): %U, %d", pad, got, n)
				}
				if p := q.Place(pad + len(c)); p.Rune != pad+1 {
					t.Fatalf("%d characters, want %d", p.Rune, pad+1)
				}
				back, err := q.Replace(pad+cut, pad+cut, "\n")
				if err != nil {
					t.Fatal(err)
				}
				checkRope(t, back, ahead+"\n"+behind, &d)
			}
		}
	}
}

// seams gives where the leaves of a tree that begins at a place begin.
func seams(n *node, at int) []int {
	if n == nil || n.isLeaf() {
		return []int{at}
	}
	return append(seams(n.left, at), seams(n.right, at+n.left.all.bytes)...)
}

// R2, where leaves meet among bytes that are no characters: what is put in there, or taken out, makes characters of them.
func TestStrayBytesAcrossLeaves(t *testing.T) {
	for _, stray := range []string{"\x90", "\xf0\x90\x90-", "\xf0\x90-", "\xf0-\x90\x90", "\xe2\x82-", "\xc3-\xa9"} {
		for pad := range 4 {
			text := strings.Repeat("x", pad) + strings.Repeat(stray, 3*maxLeaf/len(stray))
			r := New(text)
			for _, seam := range seams(r.root, 0) {
				for from := max(0, seam-5); from < seam+5; from++ {
					for size := range 3 {
						for _, put := range []string{"", "\xf0", "\xf0\x90", "\x90", "\x90\x90", "\xac"} {
							q, err := r.Replace(from, from+size, put)
							if err != nil {
								t.Fatal(err)
							}
							checkShape(t, q, text[:from]+put+text[from+size:])
						}
					}
				}
			}
		}
	}
}

// R1, byte by byte: texts that grow and go again one byte at a time.
func TestByteByByte(t *testing.T) {
	d := dice(3)
	want := d.text(2000)
	r := New("")
	for i := range len(want) {
		q, err := r.Replace(i, i, want[i:i+1])
		if err != nil {
			t.Fatal(err)
		}
		r = q
	}
	checkRope(t, r, want, &d)
	for len(want) > 0 {
		at := d.below(len(want))
		q, err := r.Replace(at, at+1, "")
		if err != nil {
			t.Fatal(err)
		}
		r, want = q, want[:at]+want[at+1:]
		if len(want)%64 == 0 {
			checkRope(t, r, want, &d)
		}
	}
	if r.Len() != 0 || r.Lines() != 1 || whole(r) != "" {
		t.Error("something is left")
	}
}

// A long text is changed many times without being gone through each time.
func TestLongTextManyChanges(t *testing.T) {
	d := dice(4)
	line := strings.Repeat("\u00e9", 40) + "\n"
	r := New(strings.Repeat(line, 200000))
	size, lines := r.Len(), r.Lines()
	for range 20000 {
		at := r.At(d.below(lines), d.below(40))
		q, err := r.Replace(at, at, "\U0001f600\n")
		if err != nil {
			t.Fatal(err)
		}
		r, size, lines = q, size+5, lines+1
	}
	if r.Len() != size || r.Lines() != lines || r.Place(size).Line != lines-1 {
		t.Errorf("Len %d, Lines %d, want %d, %d", r.Len(), r.Lines(), size, lines)
	}
}
