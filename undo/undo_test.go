package undo

import (
	"math"
	"slices"
	"strings"
	"testing"

	"amanuensis/api"
	"amanuensis/plain"
)

func span(from, to int, text string) api.Span { return api.Span{From: from, To: to, Text: text} }

// look is all that a history tells of where it is.
type look struct {
	at, size int
	text     string
	next     []int
}

func check(t *testing.T, h *History, want look) {
	t.Helper()
	got := look{h.At(), h.Len(), h.Text(), h.Next()}
	if got.at != want.at || got.size != want.size || got.text != want.text || !slices.Equal(got.next, want.next) {
		t.Fatalf("got %+v, want %+v", got, want)
	}
}

// do makes a state, which must come about.
func do(t *testing.T, h *History, e ...api.Span) {
	t.Helper()
	if err := h.Do(e); err != nil {
		t.Fatalf("Do(%v): %v", e, err)
	}
}

// goes tells of a move that was made, or was not, otherwise than it should.
func goes(t *testing.T, got, want bool) {
	t.Helper()
	if got != want {
		t.Fatalf("moved: %v, want %v", got, want)
	}
}

// H1: what a history begins with.
func TestNew(t *testing.T) {
	for _, text := range []string{"", "a", "one\ntwo", "\xff\x00\u20ac", strings.Repeat("\U0001f600", 5000)} {
		check(t, New(text), look{0, 1, text, nil})
	}
}

// H1: states one behind the other, and back, and forth.
func TestChain(t *testing.T) {
	h := New("abc")
	do(t, h, span(1, 2, "X"))
	check(t, h, look{1, 2, "aXc", nil})
	do(t, h, span(3, 3, "\n"))
	check(t, h, look{2, 3, "aXc\n", nil})
	goes(t, h.Undo(), true)
	check(t, h, look{1, 3, "aXc", []int{2}})
	goes(t, h.Undo(), true)
	check(t, h, look{0, 3, "abc", []int{1}})
	goes(t, h.Redo(0), true)
	goes(t, h.Redo(0), true)
	check(t, h, look{2, 3, "aXc\n", nil})
}

// H1: what is done behind an undo stands beside what was undone, and takes nothing of it away.
func TestBranches(t *testing.T) {
	h := New("-")
	do(t, h, span(0, 1, "a")) // 1, of 0
	goes(t, h.Undo(), true)
	do(t, h, span(0, 1, "b")) // 2, of 0
	do(t, h, span(1, 1, "c")) // 3, of 2
	goes(t, h.Go(1), true)
	do(t, h, span(1, 1, "d")) // 4, of 1
	goes(t, h.Go(0), true)
	do(t, h, span(0, 1, "e")) // 5, of 0
	goes(t, h.Undo(), true)
	check(t, h, look{0, 6, "-", []int{1, 2, 5}})
	goes(t, h.Redo(1), true)
	check(t, h, look{2, 6, "b", []int{3}})
	goes(t, h.Redo(0), true)
	check(t, h, look{3, 6, "bc", nil})
	goes(t, h.Undo(), true)
	goes(t, h.Undo(), true)
	goes(t, h.Redo(2), true)
	check(t, h, look{5, 6, "e", nil})
	goes(t, h.Go(4), true)
	check(t, h, look{4, 6, "ad", nil})
	goes(t, h.Undo(), true)
	check(t, h, look{1, 6, "a", []int{4}})
}

// H1: an edit of more than one span, which touch, and put in at one gap; and one that does nothing makes a state, too.
func TestDoSpans(t *testing.T) {
	h := New("abcdef")
	do(t, h, span(0, 0, "1"), span(0, 0, "2"), span(0, 1, "3"), span(1, 1, "4"), span(3, 5, ""), span(5, 6, "longer"), span(6, 6, "5"))
	check(t, h, look{1, 2, "1234bclonger5", nil})
	do(t, h)
	check(t, h, look{2, 3, "1234bclonger5", nil})
	do(t, h, span(4, 4, ""))
	check(t, h, look{3, 4, "1234bclonger5", nil})
	do(t, h, span(0, 13, ""))
	check(t, h, look{4, 5, "", nil})
	do(t, h, span(0, 0, "x"))
	check(t, h, look{5, 6, "x", nil})
}

// H1: characters may come to stand within others, and go again.
func TestDoBytes(t *testing.T) {
	h := New("\u20ac")
	do(t, h, span(1, 1, "\xc3"))
	check(t, h, look{1, 2, "\xe2\xc3\x82\xac", nil})
	do(t, h, span(0, 1, ""), span(3, 4, ""))
	check(t, h, look{2, 3, "\u00c2", nil})
	goes(t, h.Go(0), true)
	check(t, h, look{0, 3, "\u20ac", []int{1}})
}

// H1: what is no edit of this text: Apply's fault, and nothing is done.
func TestDoFaults(t *testing.T) {
	for _, c := range []struct {
		e    []api.Span
		want api.Errno
	}{
		{[]api.Span{span(0, 4, "x")}, api.ErrRange},
		{[]api.Span{span(4, 4, "x")}, api.ErrRange},
		{[]api.Span{span(-1, 1, "x")}, api.ErrRange},
		{[]api.Span{span(2, 1, "x")}, api.ErrRange},
		{[]api.Span{span(math.MinInt, math.MaxInt, "")}, api.ErrRange},
		{[]api.Span{span(math.MaxInt, math.MaxInt, "")}, api.ErrRange},
		{[]api.Span{span(0, 2, "x"), span(1, 3, "y")}, api.ErrOrder},
		{[]api.Span{span(2, 2, "x"), span(1, 1, "y")}, api.ErrOrder},
		{[]api.Span{span(1, 3, "x"), span(1, 1, "y")}, api.ErrOrder},
		{[]api.Span{span(2, 2, "x"), span(1, 1, "y"), span(3, 4, "z")}, api.ErrRange},
		{[]api.Span{span(0, 1, "x"), span(3, 4, "z")}, api.ErrRange},
	} {
		h := New("abc")
		do(t, h, span(0, 3, "ABCDE"))
		goes(t, h.Undo(), true)
		if got := plain.Told(h.Do(c.e)); got != c.want {
			t.Errorf("Do(%v): %v, want %v", c.e, got, c.want)
		}
		check(t, h, look{0, 2, "abc", []int{1}})
		goes(t, h.Redo(0), true)
		check(t, h, look{1, 2, "ABCDE", nil})
	}
}

// H1: an edit is one of the text of the state that the history is at, not of any other.
func TestDoOfThisText(t *testing.T) {
	h := New("ab")
	do(t, h, span(2, 2, "cd"))
	do(t, h, span(4, 4, "ef"))
	goes(t, h.Go(0), true)
	if got := plain.Told(h.Do([]api.Span{span(3, 3, "x")})); got != api.ErrRange {
		t.Errorf("an edit of a longer text: %v", got)
	}
	goes(t, h.Go(2), true)
	do(t, h, span(6, 6, "x"))
	check(t, h, look{3, 4, "abcdefx", nil})
}

// H1: Undo, Redo and Go at what is not there: false, and nothing is done.
func TestNowhere(t *testing.T) {
	h := New("ab")
	odd := []int{math.MinInt, -2, -1, 3, 4, math.MaxInt}
	nowhere := func(want look) {
		t.Helper()
		for _, n := range odd {
			goes(t, h.Go(n), false)
			goes(t, h.Redo(n), false)
		}
		goes(t, h.Redo(len(want.next)), false)
		goes(t, h.Go(want.size), false)
		check(t, h, want)
	}
	goes(t, h.Undo(), false)
	nowhere(look{0, 1, "ab", nil})
	do(t, h, span(0, 1, ""))
	nowhere(look{1, 2, "b", nil})
	goes(t, h.Undo(), true)
	goes(t, h.Undo(), false)
	nowhere(look{0, 2, "ab", []int{1}})
	do(t, h, span(1, 2, ""))
	goes(t, h.Undo(), true)
	nowhere(look{0, 3, "ab", []int{1, 2}})
	goes(t, h.Undo(), false)
	goes(t, h.Go(0), true)
	check(t, h, look{0, 3, "ab", []int{1, 2}})
}

// P2: neither what is handed in nor what is answered hangs together with the history.
func TestListsAreFresh(t *testing.T) {
	h := New("abc")
	whole := []api.Span{span(0, 1, "x"), span(1, 2, "y"), span(9, 9, "behind")}
	e := whole[:2]
	do(t, h, e...)
	if err := h.Do(e); err != nil {
		t.Fatal(err)
	}
	if !slices.Equal(whole, []api.Span{span(0, 1, "x"), span(1, 2, "y"), span(9, 9, "behind")}) {
		t.Errorf("the edit was written into: %v", whole)
	}
	e[0] = span(0, 3, "changed")
	check(t, h, look{2, 3, "xyc", nil})
	goes(t, h.Undo(), true)
	goes(t, h.Undo(), true)
	do(t, h)
	goes(t, h.Undo(), true)
	first, second := h.Next(), h.Next()
	first[0], first[1] = 7, 8
	_ = append(first, 9)
	if !slices.Equal(second, []int{1, 3}) {
		t.Errorf("two answers share memory: %v", second)
	}
	do(t, h)
	goes(t, h.Undo(), true)
	check(t, h, look{0, 5, "abc", []int{1, 3, 4}})
	if !slices.Equal(second, []int{1, 3}) {
		t.Errorf("an answer changes: %v", second)
	}
}

// P2: two histories have nothing to do with one another.
func TestHistoriesAreApart(t *testing.T) {
	h, o := New("same"), New("same")
	do(t, h, span(0, 4, "other"))
	check(t, o, look{0, 1, "same", nil})
	do(t, o, span(4, 4, "!"))
	check(t, h, look{1, 2, "other", nil})
	check(t, o, look{1, 2, "same!", nil})
}
