package rope

import (
	"math"
	"strings"
	"sync"
	"testing"

	"amanuensis/api"
	"amanuensis/plain"
)

// example is the text of the chapter's table.
const example = "a\u00e9\U0001f600\nx"

// whole gives all of a rope's text.
func whole(r *Rope) string { return r.Text(0, r.Len()) }

// farNumbers are numbers that no short text has a place for.
func farNumbers() []int {
	return []int{math.MinInt, math.MinInt + 1, -1 << 32, -5, -1, 10, 1 << 32, math.MaxInt - 3, math.MaxInt}
}

// oddTexts have what is hard in texts: characters of all lengths, and bytes that are none.
func oddTexts() []string {
	return []string{
		"", "x", "\n", "\n\n", "x\n", "\nx", "a\r\nb", "\x00", example,
		"\xff\xfe", "\x80", "\xc3", "\xc3\n", "\xe2\x82", "\xe2\x82\xac", "\xe2\x82\n\xac",
		"\xed\xa0\x80", "\xed\x9f\xbf\xee\x80\x80", "\xf4\x90\x80\x80", "\xf4\x8f\xbf\xbf",
		"\xc0\x80", "\xe0\x80\x80", "\xf0\x80\x80\x80", "\xf0\x9f\x98", "\xf0\x9f\x98\n\x80",
		"\xef\xbf\xbd\xff\uffff\U00010000", "\u2028\u0085\v\f", strings.Repeat("\U0001f600", 3) + "\n" + strings.Repeat("\u20ac\n", 2),
	}
}

func TestExamples(t *testing.T) {
	r := New(example)
	if r.Len() != 9 || r.Lines() != 2 {
		t.Errorf("Len %d, Lines %d", r.Len(), r.Lines())
	}
	for _, want := range []struct {
		at   int
		char rune
		size int
	}{{1, 233, 2}, {2, 0xFFFD, 1}, {3, 0x1F600, 4}} {
		if c, n := r.Rune(want.at); c != want.char || n != want.size {
			t.Errorf("Rune(%d): %d, %d", want.at, c, n)
		}
	}
	if p := r.Place(5); p != (api.Place{Line: 0, Rune: 2, Unit: 2}) {
		t.Errorf("Place(5): %v", p)
	}
	if p := r.Place(9); p != (api.Place{Line: 1, Rune: 1, Unit: 1}) {
		t.Errorf("Place(9): %v", p)
	}
	got := []int{r.At(0, 3), r.At(0, 9), r.RuneAt(0, 2), r.At(1, 0)}
	for i, want := range []int{3, 7, 3, 8} {
		if got[i] != want {
			t.Errorf("At, RuneAt, number %d: %d, want %d", i, got[i], want)
		}
	}
}

// R1: Len and Text, of any bytes.
func TestR1Text(t *testing.T) {
	for _, text := range oddTexts() {
		r := New(text)
		if r.Len() != len(text) {
			t.Errorf("Len of %q: %d", text, r.Len())
		}
		for from := -1; from <= len(text)+1; from++ {
			for to := -1; to <= len(text)+1; to++ {
				if got, want := r.Text(from, to), model(text).text(from, to); got != want {
					t.Errorf("Text(%d, %d) of %q: %q, want %q", from, to, text, got, want)
				}
			}
		}
	}
}

// R1: Text of pieces that are not there is empty.
func TestR1TextFar(t *testing.T) {
	r := New("abc")
	for _, n := range farNumbers() {
		for k := -1; k <= 4; k++ {
			if s := r.Text(n, k) + r.Text(k, n) + r.Text(n, n); s != "" {
				t.Errorf("Text of %d and %d: %q", n, k, s)
			}
		}
	}
}

// R1: Replace puts a text in the place of a piece, and leaves the first rope as it is.
func TestR1Replace(t *testing.T) {
	for _, text := range oddTexts() {
		for _, put := range oddTexts() {
			for from := 0; from <= len(text); from++ {
				for to := from; to <= len(text); to++ {
					r := New(text)
					q, err := r.Replace(from, to, put)
					if err != nil || q == nil {
						t.Fatalf("Replace(%d, %d, %q) of %q: %v", from, to, put, text, err)
					}
					if got, want := whole(q), text[:from]+put+text[to:]; got != want {
						t.Fatalf("Replace(%d, %d, %q) of %q: %q", from, to, put, text, got)
					}
					if whole(r) != text || r.Lines() != model(text).lines() {
						t.Fatalf("Replace(%d, %d, %q) changed %q to %q", from, to, put, text, whole(r))
					}
				}
			}
		}
	}
}

// R1: Replace answers ErrRange and no rope, unless the piece is there.
func TestR1ReplaceWrong(t *testing.T) {
	wrong := [][2]int{{-1, 0}, {-1, 3}, {-1, -1}, {0, 4}, {4, 4}, {3, 4}, {2, 1}, {3, 0}, {4, 3}}
	for _, n := range farNumbers() {
		wrong = append(wrong, [2]int{n, 1}, [2]int{1, n}, [2]int{n, n})
	}
	for _, w := range wrong {
		r := New("abc")
		q, err := r.Replace(w[0], w[1], "x")
		if q != nil || plain.Told(err) != api.ErrRange {
			t.Errorf("Replace(%d, %d): %v, %v", w[0], w[1], q, err)
		}
		if whole(r) != "abc" || r.Len() != 3 {
			t.Errorf("Replace(%d, %d) changed the rope to %q", w[0], w[1], whole(r))
		}
	}
	q, err := New("").Replace(0, 1, "")
	if q != nil || plain.Told(err) != api.ErrRange {
		t.Errorf("Replace of an empty text: %v, %v", q, err)
	}
}

// R2: the character from a place on, as UTF-8 has it.
func TestR2Rune(t *testing.T) {
	for _, c := range []struct {
		text     string
		at       int
		want     rune
		wantSize int
	}{
		{"a", 0, 'a', 1}, {"a\x00", 1, 0, 1}, {"\x7f", 0, 0x7F, 1}, {"\n", 0, 10, 1},
		{"\xc2\x80", 0, 0x80, 2}, {"\xdf\xbf", 0, 0x7FF, 2}, {"\xe0\xa0\x80", 0, 0x800, 3},
		{"\xef\xbf\xbf", 0, 0xFFFF, 3}, {"\xf0\x90\x80\x80", 0, 0x10000, 4}, {"\xf4\x8f\xbf\xbf", 0, 0x10FFFF, 4},
		{"\xed\x9f\xbf", 0, 0xD7FF, 3}, {"\xee\x80\x80", 0, 0xE000, 3},
		{"\xef\xbf\xbd", 0, 0xFFFD, 3}, {"\xef\xbf\xbd", 1, 0xFFFD, 1},
		{"\xc1\xbf", 0, 0xFFFD, 1}, {"\xe0\x9f\xbf", 0, 0xFFFD, 1}, {"\xf0\x8f\xbf\xbf", 0, 0xFFFD, 1},
		{"\xed\xa0\x80", 0, 0xFFFD, 1}, {"\xed\xbf\xbf", 0, 0xFFFD, 1}, {"\xf4\x90\x80\x80", 0, 0xFFFD, 1},
		{"\xf5\x80\x80\x80", 0, 0xFFFD, 1}, {"\xff", 0, 0xFFFD, 1}, {"\x80", 0, 0xFFFD, 1},
		{"\xc3", 0, 0xFFFD, 1}, {"\xe2\x82", 0, 0xFFFD, 1}, {"\xf0\x9f\x98x", 0, 0xFFFD, 1},
		{"\xe2\xc3\xa9", 0, 0xFFFD, 1}, {"\xe2\xc3\xa9", 1, 0xE9, 2}, {"\xc3\xa9", 1, 0xFFFD, 1},
		{"", 0, 0, 0}, {"", 1, 0, 0}, {"a", 1, 0, 0}, {"a", -1, 0, 0}, {"a", 2, 0, 0},
		{"a", math.MaxInt, 0, 0}, {"a", math.MinInt, 0, 0}, {"a", math.MaxInt - 2, 0, 0},
	} {
		if got, n := New(c.text).Rune(c.at); got != c.want || n != c.wantSize {
			t.Errorf("Rune(%d) of %q: %U, %d", c.at, c.text, got, n)
		}
	}
}

// R2: which characters a text is taken apart into, and how many units they have.
func TestR2Units(t *testing.T) {
	for _, c := range []struct {
		text         string
		runes, units int
	}{
		{"", 0, 0}, {"a\x00", 2, 2}, {"\uffff", 1, 1}, {"\U00010000", 1, 2}, {"\U0010ffff", 1, 2},
		{"\xff\xff", 2, 2}, {"\xed\xa0\x80", 3, 3}, {"\xf4\x90\x80\x80", 4, 4}, {"\xf0\x9f\x98", 3, 3},
		{"\xe2\x82\xe2\x82\xac", 3, 3}, {"\xf0\x9f\x98\U0001f600", 4, 5}, {"\xef\xbf\xbd", 1, 1}, {"\xc3\xa9\xa9", 2, 2},
	} {
		if p := New(c.text).Place(len(c.text)); p != (api.Place{Line: 0, Rune: c.runes, Unit: c.units}) {
			t.Errorf("Place of the end of %q: %v", c.text, p)
		}
	}
}

// R3: only bytes 10 end lines.
func TestR3Lines(t *testing.T) {
	for text, want := range map[string]int{
		"": 1, "a": 1, "\n": 2, "a\n": 2, "\n\n\n": 4, "a\nb\nc": 3, "\r": 1, "\r\n": 2, "\v\f\u0085\u2028\u2029": 1, "\xe2\x82\n\xac": 2, "\u010a\u0a0a": 1,
	} {
		if got := New(text).Lines(); got != want {
			t.Errorf("Lines of %q: %d, want %d", text, got, want)
		}
	}
}

// R4: at every place of a text, and outside of it.
func TestR4Place(t *testing.T) {
	for _, text := range oddTexts() {
		r := New(text)
		for at := -2; at <= len(text)+2; at++ {
			if got, want := r.Place(at), model(text).place(at); got != want {
				t.Errorf("Place(%d) of %q: %v, want %v", at, text, got, want)
			}
		}
	}
}

// R4: the edges that the chapter names, as numbers.
func TestR4Edges(t *testing.T) {
	r := New("\u00e9\n\U0001f600z\n")
	for at, want := range map[int]api.Place{
		math.MinInt: {}, -1: {}, 0: {}, 1: {}, 2: {Line: 0, Rune: 1, Unit: 1}, 3: {Line: 1}, 6: {Line: 1},
		7: {Line: 1, Rune: 1, Unit: 2}, 8: {Line: 1, Rune: 2, Unit: 3}, 9: {Line: 2}, 10: {Line: 2}, math.MaxInt: {Line: 2},
	} {
		if got := r.Place(at); got != want {
			t.Errorf("Place(%d): %v, want %v", at, got, want)
		}
	}
}

// R5: by every line and count of a text, and outside of them.
func TestR5At(t *testing.T) {
	for _, text := range oddTexts() {
		r, m := New(text), model(text)
		for line := -2; line <= m.lines()+1; line++ {
			for n := -2; n <= len(text)+2; n++ {
				if got, want := r.At(line, n), m.find(line, n, false); got != want {
					t.Errorf("At(%d, %d) of %q: %d, want %d", line, n, text, got, want)
				}
				if got, want := r.RuneAt(line, n), m.find(line, n, true); got != want {
					t.Errorf("RuneAt(%d, %d) of %q: %d, want %d", line, n, text, got, want)
				}
			}
		}
	}
}

// R5: the edges that the chapter names, as numbers.
func TestR5Edges(t *testing.T) {
	r := New("a\U0001f600b\n\ncd\n")
	for _, c := range []struct{ line, n, byUnit, byRune int }{
		{0, 0, 0, 0}, {0, 1, 1, 1}, {0, 2, 1, 5}, {0, 3, 5, 6}, {0, 4, 6, 6}, {0, 5, 6, 6}, {0, math.MaxInt, 6, 6},
		{0, -1, 0, 0}, {0, math.MinInt, 0, 0}, {1, 0, 7, 7}, {1, 1, 7, 7}, {1, -1, 7, 7}, {1, math.MaxInt, 7, 7},
		{2, -1, 8, 8}, {2, 1, 9, 9}, {2, 2, 10, 10}, {2, 3, 10, 10}, {3, 0, 11, 11}, {3, 1, 11, 11}, {3, -1, 11, 11},
		{-1, 5, 0, 0}, {math.MinInt, math.MaxInt, 0, 0}, {4, 0, 11, 11}, {4, -1, 11, 11}, {math.MaxInt, 0, 11, 11}, {math.MaxInt, math.MinInt, 11, 11},
	} {
		if u, n := r.At(c.line, c.n), r.RuneAt(c.line, c.n); u != c.byUnit || n != c.byRune {
			t.Errorf("At, RuneAt(%d, %d): %d, %d, want %d, %d", c.line, c.n, u, n, c.byUnit, c.byRune)
		}
	}
}

// What follows of R4 and R5: from a place to where its character begins.
func TestR5ThereAndBack(t *testing.T) {
	for _, text := range oddTexts() {
		r := New(text)
		for _, l := range append(model(text).letters(), letter{at: len(text), size: 1}) {
			for at := l.at; at < l.at+l.size; at++ {
				p := r.Place(at)
				if u, n := r.At(p.Line, p.Unit), r.RuneAt(p.Line, p.Rune); u != l.at || n != l.at {
					t.Errorf("%q, byte %d: %v leads to %d, %d, not to %d", text, at, p, u, n, l.at)
				}
			}
		}
	}
}

// P2: a rope that several look at, and make others of, answers all of them alike.
func TestManyHands(t *testing.T) {
	r := New(strings.Repeat(example, 500))
	want := whole(r)
	var hands sync.WaitGroup
	for k := range 8 {
		hands.Go(func() {
			for at := k; at < len(want); at += 97 {
				q, err := r.Replace(at, at, "--")
				if err != nil || whole(q) != want[:at]+"--"+want[at:] {
					t.Errorf("Replace at %d: %v", at, err)
				}
			}
		})
	}
	hands.Wait()
	if whole(r) != want {
		t.Error("the rope is not what it was")
	}
}
