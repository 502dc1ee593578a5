package undo

import (
	"runtime"
	"slices"
	"strings"
	"testing"

	"amanuensis/api"
	"amanuensis/edit"
	"amanuensis/plain"
)

// dice gives numbers that look as if thrown, the same ones each time.
type dice uint64

func (d *dice) below(n int) int {
	*d = *d*6364136223846793005 + 1442695040888963407
	return int(uint64(*d)>>33) % n
}

func (d *dice) text(most int) string {
	pieces := []string{"a", "\n", "\u00e9", "\u20ac", "\U0001f600", "\xf0", "\x9f", "\x80", "\xe2", "\xac", "\xc3", "\xff"}
	var b strings.Builder
	for range d.below(most + 1) {
		b.WriteString(pieces[d.below(len(pieces))])
	}
	return b.String()
}

// edit gives one of texts of n bytes, or, now and then, one of somewhat longer ones, or one out of order.
func (d *dice) edit(n, most int) []api.Span {
	if d.below(8) == 0 {
		n += d.below(3)
	}
	var out []api.Span
	at := 0
	for range d.below(4) {
		from := at + d.below(n-at+1)
		to := from + d.below(n-from+1)/(1+d.below(9))
		out = append(out, span(from, to, d.text(most)))
		at = to
	}
	if len(out) > 1 && d.below(8) == 0 {
		slices.Reverse(out)
	}
	return out
}

// model is a history as H1 tells of it: the whole text of each state, and the number of the one that it comes from.
type model struct {
	texts []string
	from  []int
	at    int
}

func (m *model) next() []int {
	var out []int
	for n := 1; n < len(m.from); n++ {
		if m.from[n] == m.at {
			out = append(out, n)
		}
	}
	return out
}

func (m *model) look() look { return look{m.at, len(m.texts), m.texts[m.at], m.next()} }

// move makes one move of both, and tells whether they did the same.
func move(d *dice, h *History, m *model, most int) bool {
	switch d.below(6) {
	case 0, 1:
		e := d.edit(len(m.texts[m.at]), most)
		text, fault := edit.Apply(m.texts[m.at], e)
		if fault == nil {
			m.texts = append(m.texts, text)
			m.from = append(m.from, m.at)
			m.at = len(m.texts) - 1
		}
		return plain.Told(h.Do(e)) == plain.Told(fault)
	case 2, 3:
		can := m.at > 0
		if can {
			m.at = m.from[m.at]
		}
		return h.Undo() == can
	case 4:
		next := m.next()
		k := d.below(len(next)+3) - 1
		can := k >= 0 && k < len(next)
		if can {
			m.at = next[k]
		}
		return h.Redo(k) == can
	}
	n := d.below(len(m.texts)+3) - 1
	can := n >= 0 && n < len(m.texts)
	if can {
		m.at = n
	}
	return h.Go(n) == can
}

// H1, H2: any moves, in short texts and in ones of many leaves.
func TestMoves(t *testing.T) {
	for seed := range 300 {
		d := dice(seed)
		most, moves := 4, 60
		if seed%10 == 0 {
			most, moves = 2000, 120
		}
		text := d.text(most)
		h := New(text)
		m := &model{texts: []string{text}, from: []int{0}}
		for i := range moves {
			if !move(&d, h, m, most) {
				t.Fatalf("seed %d: move %d is answered otherwise", seed, i)
			}
			check(t, h, m.look())
		}
		for n := range m.texts {
			m.at = n
			goes(t, h.Go(n), true)
			check(t, h, m.look())
		}
	}
}

// H2: every way to every state of a tree comes to the same text.
func TestEveryWay(t *testing.T) {
	h := New("0")
	texts := []string{"0"}
	var from []int
	for n := range 40 {
		from = append(from, n/3)
		goes(t, h.Go(n/3), true)
		do(t, h, span(n%2, 1, "<"), span(len(texts[n/3]), len(texts[n/3]), string(rune('a'+n%26))))
		texts = append(texts, h.Text())
	}
	for a := range texts {
		goes(t, h.Go(a), true)
		for h.Undo() {
			if h.Text() != texts[h.At()] {
				t.Fatalf("back from %d to %d: %q, want %q", a, h.At(), h.Text(), texts[h.At()])
			}
		}
		for _, n := range wayTo(from, a) {
			goes(t, h.Redo(slices.Index(h.Next(), n)), true)
			if h.At() != n || h.Text() != texts[n] {
				t.Fatalf("forth to %d: at %d, %q, want %q", n, h.At(), h.Text(), texts[n])
			}
		}
	}
}

// wayTo gives the states on the way from 0 to one, where the state n+1 comes from from[n].
func wayTo(from []int, n int) []int {
	var out []int
	for ; n > 0; n = from[n-1] {
		out = append(out, n)
	}
	slices.Reverse(out)
	return out
}

// P6: many small edits of a long text, in a chain and side by side, are not many long texts.
func TestManyStatesOfLongText(t *testing.T) {
	const size, states = 4 << 20, 4000
	h := New(strings.Repeat("0123456789abcdef", size/16))
	before := inUse()
	for n := range states {
		at := n * 977 % size
		if n%2 == 1 {
			goes(t, h.Undo(), true)
			do(t, h, span(at, size, ""))
			goes(t, h.Undo(), true)
		}
		do(t, h, span(at, at+1, "x"))
	}
	if kept := inUse() - before; kept > 64<<20 {
		t.Errorf("%d states keep %d bytes", h.Len(), kept)
	}
	if text := h.Text(); len(text) != size {
		t.Errorf("%d bytes", len(text))
	}
	runtime.KeepAlive(h)
}

// inUse tells how much memory is held.
func inUse() int {
	runtime.GC()
	var m runtime.MemStats
	runtime.ReadMemStats(&m)
	return int(m.HeapAlloc)
}

// P6: long ways, and wide ones.
func TestManyStates(t *testing.T) {
	const states = 100000
	h := New("")
	for n := range states {
		do(t, h, span(0, 0, "x"))
		if h.At() != n+1 {
			t.Fatalf("at %d", h.At())
		}
		if n%8 < 7 {
			goes(t, h.Undo(), true)
		}
	}
	undone := 0
	for h.Undo() {
		undone++
	}
	if undone != states/8 || h.Text() != "" {
		t.Errorf("%d undone, %q", undone, h.Text())
	}
	for h.Redo(len(h.Next()) - 1) {
	}
	if h.At() != states || len(h.Text()) != states/8 {
		t.Errorf("at %d, %d bytes", h.At(), len(h.Text()))
	}
}

// P6: one edit of many spans.
func TestManySpans(t *testing.T) {
	const spans = 100000
	h := New(strings.Repeat("ab", spans))
	var e []api.Span
	for n := range spans {
		e = append(e, span(2*n, 2*n+1, "cd"))
	}
	do(t, h, e...)
	if h.Text() != strings.Repeat("cdb", spans) {
		t.Error("another text")
	}
	goes(t, h.Undo(), true)
	if h.Text() != strings.Repeat("ab", spans) {
		t.Error("another text behind Undo")
	}
}
