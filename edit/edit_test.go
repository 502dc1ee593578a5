package edit

import (
	"math"
	"reflect"
	"slices"
	"strings"
	"testing"

	"amanuensis/api"
	"amanuensis/plain"
)

func span(from, to int, text string) api.Span { return api.Span{From: from, To: to, Text: text} }

func spans(s ...api.Span) []api.Span { return s }

// applied gives what an edit makes, which must be one.
func applied(t *testing.T, text string, e []api.Span) string {
	t.Helper()
	out, err := Apply(text, e)
	if err != nil {
		t.Fatalf("Apply(%q, %v): %v", text, e, err)
	}
	return out
}

// E1.
func TestFault(t *testing.T) {
	for _, c := range []struct {
		n    int
		e    []api.Span
		want api.Errno
	}{
		{0, nil, api.OK},
		{-1, nil, api.ErrRange},
		{math.MinInt, nil, api.ErrRange},
		{-1, spans(span(-1, -1, "")), api.ErrRange},
		{4, spans(span(0, 4, "x")), api.OK},
		{4, spans(span(0, 5, "x")), api.ErrRange},
		{4, spans(span(5, 5, "")), api.ErrRange},
		{4, spans(span(-1, 0, "")), api.ErrRange},
		{4, spans(span(3, 2, "")), api.ErrRange},
		{4, spans(span(math.MinInt, math.MaxInt, "")), api.ErrRange},
		{math.MaxInt, spans(span(0, math.MaxInt, "")), api.OK},
		{4, spans(span(1, 2, ""), span(2, 2, ""), span(2, 2, ""), span(2, 4, ""), span(4, 4, "")), api.OK},
		{4, spans(span(1, 3, ""), span(2, 4, "")), api.ErrOrder},
		{4, spans(span(2, 3, ""), span(2, 2, "")), api.ErrOrder},
		{4, spans(span(3, 3, ""), span(2, 2, "")), api.ErrOrder},
		{4, spans(span(1, 2, ""), span(1, 2, "")), api.ErrOrder},
		{4, spans(span(3, 4, ""), span(0, 1, ""), span(2, 9, "")), api.ErrRange}, // the range of all ahead of the order of any
	} {
		if got := plain.Told(Fault(c.n, c.e)); got != c.want {
			t.Errorf("Fault(%d, %v): %v, want %v", c.n, c.e, got, c.want)
		}
	}
}

// E1: each call answers the fault of what it is given, and nothing else with it.
func TestFaultsOfCalls(t *testing.T) {
	good, far, crossed := spans(span(0, 1, "x")), spans(span(0, 5, "")), spans(span(1, 2, "y"), span(0, 1, "z"))
	for _, c := range []struct {
		n    int
		a, b []api.Span
		want api.Errno
	}{
		{4, far, good, api.ErrRange},
		{4, crossed, good, api.ErrOrder},
		{4, crossed, far, api.ErrOrder},
		{4, far, crossed, api.ErrRange},
		{4, good, crossed, api.ErrOrder},
		{4, good, far, api.ErrRange},
		{-1, nil, nil, api.ErrRange},
	} {
		if out, err := Compose(c.n, c.a, c.b); plain.Told(err) != c.want || out != nil {
			t.Errorf("Compose(%d, %v, %v): %v %v, want %v", c.n, c.a, c.b, out, err, c.want)
		}
		if x, y, err := Merge(c.n, c.a, c.b); plain.Told(err) != c.want || x != nil || y != nil {
			t.Errorf("Merge(%d, %v, %v): %v %v %v, want %v", c.n, c.a, c.b, x, y, err, c.want)
		}
	}
	for _, e := range [][]api.Span{far, crossed} {
		want := Fault(4, e)
		if out, err := Apply("abcd", e); err != want || out != "" {
			t.Errorf("Apply of %v: %q %v, want %v", e, out, err, want)
		}
		if out, err := Plain(4, e); err != want || out != nil {
			t.Errorf("Plain of %v: %v %v, want %v", e, out, err, want)
		}
		if out, err := Invert("abcd", e); err != want || out != nil {
			t.Errorf("Invert of %v: %v %v, want %v", e, out, err, want)
		}
	}
	if out, err := Plain(-1, nil); err != api.ErrRange || out != nil {
		t.Errorf("Plain(-1): %v %v", out, err)
	}
}

// E2.
func TestApply(t *testing.T) {
	for _, c := range []struct {
		text string
		e    []api.Span
		want string
	}{
		{"", nil, ""},
		{"abcd", nil, "abcd"},
		{"abcd", spans(span(1, 2, "X"), span(2, 2, "Y")), "aXYcd"},
		{"", spans(span(0, 0, "x"), span(0, 0, ""), span(0, 0, "y")), "xy"},
		{"abcd", spans(span(0, 4, "")), ""},
		{"abcd", spans(span(0, 0, "<"), span(4, 4, ">")), "<abcd>"},
		{"abcd", spans(span(1, 1, "1"), span(1, 2, "2"), span(2, 3, ""), span(3, 3, "3")), "a123d"},
		{"\xff\x00é", spans(span(1, 3, "\x80")), "\xff\x80\xa9"},
	} {
		if got := applied(t, c.text, c.e); got != c.want {
			t.Errorf("Apply(%q, %v): %q, want %q", c.text, c.e, got, c.want)
		}
	}
}

// E3.
func TestPlain(t *testing.T) {
	most := math.MaxInt
	for _, c := range []struct {
		n       int
		e, want []api.Span
	}{
		{4, spans(span(1, 2, ""), span(2, 3, "Z"), span(3, 4, "")), spans(span(1, 2, ""), span(2, 4, "Z"))},
		{4, spans(span(1, 2, "X"), span(2, 2, "Y")), spans(span(1, 2, "X"), span(2, 2, "Y"))},
		{4, spans(span(0, 0, ""), span(2, 2, ""), span(4, 4, "")), nil},
		{4, spans(span(1, 2, ""), span(2, 3, ""), span(3, 4, "")), spans(span(1, 4, ""))},
		{4, spans(span(1, 1, "a"), span(1, 1, "b"), span(1, 2, "c"), span(2, 2, ""), span(2, 3, "")), spans(span(1, 3, "abc"))},
		{4, spans(span(1, 2, ""), span(3, 4, "")), spans(span(1, 2, ""), span(3, 4, ""))},
		{4, spans(span(2, 4, "x"), span(4, 4, "y"), span(4, 4, "z")), spans(span(2, 4, "x"), span(4, 4, "yz"))},
		{0, spans(span(0, 0, "x")), spans(span(0, 0, "x"))},
		{most, spans(span(0, most-1, ""), span(most-1, most, ""), span(most, most, "x")), spans(span(0, most, ""), span(most, most, "x"))},
	} {
		got, err := Plain(c.n, c.e)
		if err != nil || !slices.Equal(got, c.want) {
			t.Errorf("Plain(%d, %v): %v %v, want %v", c.n, c.e, got, err, c.want)
		}
	}
}

// E4.
func TestCompose(t *testing.T) {
	for _, c := range []struct {
		a, b []api.Span
		want string
	}{
		{nil, nil, "abcd"},
		{spans(span(1, 2, "XY")), nil, "aXYcd"},
		{nil, spans(span(1, 2, "XY")), "aXYcd"},
		{spans(span(1, 2, "XYZ")), spans(span(2, 3, "-")), "aX-Zcd"},
		{spans(span(1, 2, "XYZ")), spans(span(0, 6, "")), ""},
		{spans(span(1, 3, "")), spans(span(1, 1, "-")), "a-d"},
		{spans(span(0, 4, "")), spans(span(0, 0, "new")), "new"},
		{spans(span(4, 4, "e")), spans(span(4, 5, "E"), span(5, 5, "!")), "abcdE!"},
		{spans(span(0, 0, "12"), span(2, 2, "34")), spans(span(1, 3, ""), span(4, 5, "")), "1b4cd"},
	} {
		both, err := Compose(4, c.a, c.b)
		if err != nil {
			t.Fatalf("Compose(%v, %v): %v", c.a, c.b, err)
		}
		if got := applied(t, "abcd", both); got != c.want {
			t.Errorf("Compose(%v, %v): %v makes %q, want %q", c.a, c.b, both, got, c.want)
		}
	}
}

// E4: b is an edit of as many bytes as a makes.
func TestComposeLength(t *testing.T) {
	for _, c := range []struct {
		n    int
		a, b []api.Span
		want api.Errno
	}{
		{4, spans(span(1, 3, "")), spans(span(2, 2, "")), api.OK},
		{4, spans(span(1, 3, "")), spans(span(2, 3, "")), api.ErrRange},
		{4, spans(span(4, 4, "xy")), spans(span(6, 6, "")), api.OK},
		{4, spans(span(4, 4, "xy")), spans(span(7, 7, "")), api.ErrRange},
		{4, spans(span(1, 3, "x"), span(3, 4, "y"), span(4, 4, "z")), spans(span(4, 4, "")), api.OK},
		{4, spans(span(1, 3, "x"), span(3, 4, "y"), span(4, 4, "z")), spans(span(4, 5, "")), api.ErrRange},
		{0, nil, spans(span(0, 1, "")), api.ErrRange},
		{math.MaxInt, spans(span(0, 0, "x")), spans(span(math.MaxInt, math.MaxInt, "y")), api.OK},
		{math.MaxInt, spans(span(0, math.MaxInt, "x")), spans(span(1, 2, "")), api.ErrRange},
	} {
		out, err := Compose(c.n, c.a, c.b)
		if plain.Told(err) != c.want || err == nil && Fault(c.n, out) != nil || err != nil && out != nil {
			t.Errorf("Compose(%d, %v, %v): %v %v, want %v", c.n, c.a, c.b, out, err, c.want)
		}
	}
}

// E4: Compose and Plain do not count up to a length that is far away.
func TestFarAway(t *testing.T) {
	far := math.MaxInt
	out, err := Compose(far, spans(span(0, 0, "x")), spans(span(0, 1, "y"), span(far, far, "z")))
	if want := spans(span(0, 0, "y"), span(far-1, far-1, "z")); err != nil || !slices.Equal(plainOf(out), want) {
		t.Errorf("Compose far away: %v %v, want %v", out, err, want)
	}
	x, y, err := Merge(far, spans(span(5, far, "")), spans(span(7, 8, "")))
	if err != nil || !slices.Equal(x, spans(span(5, far-1, ""))) || len(y) != 0 {
		t.Errorf("Merge far away: %v %v %v", x, y, err)
	}
}

// E4.
func TestInvert(t *testing.T) {
	for _, e := range [][]api.Span{
		nil,
		spans(span(0, 4, "")),
		spans(span(0, 4, "longer than it was")),
		spans(span(1, 2, "X"), span(2, 2, "Y")),
		spans(span(0, 0, ""), span(0, 1, ""), span(1, 2, ""), span(2, 2, "q"), span(4, 4, "r"), span(4, 4, "s")),
	} {
		made := applied(t, "abcd", e)
		back, err := Invert("abcd", e)
		if err != nil {
			t.Fatalf("Invert(%v): %v", e, err)
		}
		if got := applied(t, made, back); got != "abcd" {
			t.Errorf("Invert(%v): %v makes %q of %q", e, back, got, made)
		}
	}
}

// E5.
func TestMerge(t *testing.T) {
	text := "abcd"
	for _, c := range []struct {
		a, b []api.Span
		want string
	}{
		{nil, nil, "abcd"},
		{spans(span(1, 3, "X")), spans(span(2, 4, "Y")), "aXY"},
		{spans(span(2, 4, "Y")), spans(span(1, 3, "X")), "aXY"},
		{spans(span(2, 2, "A")), spans(span(2, 2, "B")), "abABcd"},
		{spans(span(2, 2, "B")), spans(span(2, 2, "A")), "abBAcd"},
		{spans(span(1, 3, "")), spans(span(2, 2, "in")), "aind"},
		{spans(span(2, 2, "in")), spans(span(1, 3, "")), "aind"},
		{spans(span(1, 3, "same")), spans(span(1, 3, "same")), "asamesamed"},
		{spans(span(0, 4, "")), spans(span(0, 0, "1"), span(2, 2, "2"), span(4, 4, "3")), "123"},
		{spans(span(0, 1, "x"), span(1, 2, "y")), spans(span(0, 2, "z")), "xzycd"},
	} {
		x, y, err := Merge(len(text), c.a, c.b)
		if err != nil {
			t.Fatalf("Merge(%v, %v): %v", c.a, c.b, err)
		}
		first, second := applied(t, applied(t, text, c.b), x), applied(t, applied(t, text, c.a), y)
		if first != c.want || second != c.want {
			t.Errorf("Merge(%v, %v): %v makes %q, %v makes %q, want %q", c.a, c.b, x, first, y, second, c.want)
		}
	}
}

// E1: all spans of some numbers are held against the chapter's words.
func TestFaultByModel(t *testing.T) {
	d := dice(1)
	for range 20000 {
		n := d.below(8)
		e := d.anything(n)
		if got, want := Fault(n, e), faultOf(n, e); got != want {
			t.Fatalf("Fault(%d, %v): %v, want %v", n, e, got, want)
		}
	}
}

// E2, E3, E4: one edit.
func TestOneByModel(t *testing.T) {
	d := dice(2)
	for range 20000 {
		text := d.text(9)
		e := d.edit(len(text))
		does := deedOf(len(text), e)
		made := applied(t, text, e)
		if want := does.of(text); made != want {
			t.Fatalf("Apply(%q, %v): %q, want %q", text, e, made, want)
		}
		p, err := Plain(len(text), e)
		if want := does.plain(); err != nil || !slices.Equal(p, want) {
			t.Fatalf("Plain(%d, %v): %v %v, want %v", len(text), e, p, err, want)
		}
		if again := deedOf(len(text), p); !reflect.DeepEqual(again, does) {
			t.Fatalf("Plain(%d, %v): %v does something else", len(text), e, p)
		}
		back, err := Invert(text, e)
		if err != nil || applied(t, made, back) != text {
			t.Fatalf("Invert(%q, %v): %v %v", text, e, back, err)
		}
	}
}

// E4, E5: two edits.
func TestTwoByModel(t *testing.T) {
	d := dice(3)
	for range 20000 {
		text := d.text(9)
		n := len(text)
		a, b := d.edit(n), d.edit(n)
		byA, byB := applied(t, text, a), applied(t, text, b)
		then := d.edit(len(byA))
		c, err := Compose(n, a, then)
		if want := applied(t, byA, then); err != nil || applied(t, text, c) != want {
			t.Fatalf("Compose(%d, %v, %v): %v %v, does not make %q of %q", n, a, then, c, err, want, text)
		}
		x, y, err := Merge(n, a, b)
		want := deedOf(n, a).both(deedOf(n, b)).of(text)
		if err != nil || applied(t, byB, x) != want || applied(t, byA, y) != want {
			t.Fatalf("Merge(%d, %v, %v): %v %v %v, do not both make %q of %q", n, a, b, x, y, err, want, text)
		}
		for _, out := range [][]api.Span{c, x, y} {
			if !slices.Equal(plainOf(out), out) {
				t.Fatalf("%v, of %v, %v and %v, is not plain", out, a, then, b)
			}
		}
	}
}

// E4, E5: what comes of two edits does not hang on the text; another one of this length is edited likewise.
func TestOtherTexts(t *testing.T) {
	d := dice(4)
	for range 2000 {
		n := d.below(9)
		a, b := d.edit(n), d.edit(n)
		x, y, _ := Merge(n, a, b)
		for _, text := range []string{strings.Repeat("a", n), "123456789"[:n]} {
			if applied(t, applied(t, text, b), x) != applied(t, applied(t, text, a), y) {
				t.Fatalf("Merge(%d, %v, %v): %v and %v do not come to one text", n, a, b, x, y)
			}
		}
	}
}

// P1: no call panics, and with an error there is nothing else.
func TestAnything(t *testing.T) {
	d := dice(5)
	for range 20000 {
		text := d.text(6)
		n := len(text)
		a, b := d.anything(n), d.anything(n)
		if out, err := Apply(text, a); err != faultOf(n, a) || err != nil && out != "" {
			t.Fatalf("Apply(%q, %v): %q %v", text, a, out, err)
		}
		if out, err := Invert(text, a); err != faultOf(n, a) || err != nil && out != nil {
			t.Fatalf("Invert(%q, %v): %v %v", text, a, out, err)
		}
		if out, err := Compose(n, a, b); err != nil && (out != nil || faultOf(n, a) != nil && err != faultOf(n, a)) {
			t.Fatalf("Compose(%d, %v, %v): %v %v", n, a, b, out, err)
		}
		want := faultOf(n, a)
		if want == nil {
			want = faultOf(n, b)
		}
		if x, y, err := Merge(n, a, b); err != want || err != nil && (x != nil || y != nil) {
			t.Fatalf("Merge(%d, %v, %v): %v %v %v, want %v", n, a, b, x, y, err, want)
		}
	}
}

// P2, P5: what is handed in stays as it is, also behind its length, and nothing that comes out shares memory with it or with another answer.
func TestMemory(t *testing.T) {
	text := "abcdef"
	whole := spans(span(1, 2, "x"), span(3, 4, "y"), span(5, 5, "behind"))
	kept := slices.Clone(whole)
	a, b := whole[:2], slices.Clone(whole[:2])
	var outs [][]api.Span
	for range 2 {
		p, _ := Plain(len(text), a)
		c, _ := Compose(len(text), a, b)
		i, _ := Invert(text, a)
		x, y, _ := Merge(len(text), a, b)
		outs = append(outs, p, c, i, x, y)
	}
	for i, out := range outs {
		if len(out) == 0 {
			t.Fatalf("answer %d is empty", i)
		}
		for j := range out[:cap(out)] {
			out[:cap(out)][j] = span(-7, -7, "written")
		}
		for j, other := range outs {
			if j > i && slices.Contains(other, span(-7, -7, "written")) {
				t.Fatalf("answers %d and %d share memory", i, j)
			}
		}
	}
	if !slices.Equal(whole, kept) || !slices.Equal(b, kept[:2]) {
		t.Fatalf("what was handed in is %v and %v now", whole, b)
	}
}

// Many spans, and long texts, are gone through once.
func TestMany(t *testing.T) {
	n := 1 << 20
	text := strings.Repeat("ab", n/2)
	puts := slices.Repeat(spans(span(7, 7, "xy")), n/2)
	p, err := Plain(n, puts)
	if err != nil || len(p) != 1 || len(p[0].Text) != n {
		t.Fatalf("Plain of %d spans in one gap: %d spans %v", len(puts), len(p), err)
	}
	var thin []api.Span
	for i := range n {
		thin = append(thin, span(2*i, 2*i+1, ""))
	}
	c, err := Compose(n, puts, thin)
	made := applied(t, text, puts)
	if err != nil || applied(t, text, c) != applied(t, made, thin) {
		t.Fatalf("Compose of many spans: %v", err)
	}
	x, y, err := Merge(n, puts, thin[:n/2])
	if err != nil || applied(t, applied(t, text, thin[:n/2]), x) != applied(t, made, y) {
		t.Fatalf("Merge of many spans: %v", err)
	}
	back, err := Invert(text, thin[:n/2])
	if err != nil || applied(t, applied(t, text, thin[:n/2]), back) != text {
		t.Fatalf("Invert of many spans: %v", err)
	}
}

func TestE2Length(t *testing.T) {
	text := "abcdefgh"
	for _, e := range [][]api.Span{nil, {{From: 0, To: 8}}, {{From: 2, To: 2, Text: "xyz"}}, {{From: 1, To: 4, Text: "x"}, {From: 4, To: 4, Text: "yy"}, {From: 7, To: 8}}} {
		out, err := Apply(text, e)
		if got := Length(len(text), e); err != nil || got != len(out) {
			t.Errorf("%v: %d, want %d; %v", e, got, len(out), err)
		}
	}
}
