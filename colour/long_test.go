package colour

import (
	"slices"
	"strconv"
	"strings"
	"testing"
	"time"

	"amanuensis/api"
)

// soon fails if something takes long.
func soon(t *testing.T, do func()) {
	t.Helper()
	begin := time.Now()
	do()
	if spent := time.Since(begin); spent > 20*time.Second {
		t.Errorf("it took %v", spent)
	}
}

// filled gives a text of as many pieces as have place in a file, and how many these are.
func filled(head, piece, tail string) (string, int) {
	count := (api.MaxFile - len(head) - len(tail)) / len(piece)
	return head + strings.Repeat(piece, count) + tail, count
}

// last gives the last one of the colours of some files, and how many there are.
func last(t *testing.T, texts ...string) (c api.Colour, count int) {
	t.Helper()
	soon(t, func() {
		all := colours(t, texts...)
		c, count = all[len(all)-1], len(all)
	})
	return c, count
}

func TestG1FullFiles(t *testing.T) {
	for _, f := range []struct {
		head, piece, tail string
		tokens            int // of a piece
		more              int // of head and tail
		kind              int // of the last one
	}{
		{"", ",", "", 1, 0, 5},
		{"", "é", "", 0, 1, 13},
		{"def f(x", ",x", ")=x", 2, 7, 8},
		{"def f=", "f+", "f", 2, 4, 7},
		{"def f=1", "(1)", " f", 3, 5, 13},
		{"", "\n\n\n;", "\n\n1", 1, 1, 2},
		{"", "{-\n-}", "x", 1, 1, 13},
		{"{-", "\n", "-}x", 0, 2, 13},
		{"{-", "\xff\n", "", 0, 1, 6},
		{"", "use b.x;", "def f=x", 5, 4, 7},
		{"", "use b.y;", "def f=y", 5, 4, 12},
		{"", "\U0001F600\n", "", 1, 0, 6},
	} {
		text, count := filled(f.head, f.piece, f.tail)
		c, tokens := last(t, text, "pub def x = 1; def y = 2;")
		if tokens != count*f.tokens+f.more || c.Kind != f.kind {
			t.Errorf("%.40q: %d tokens, want %d; the last one is %v", text, tokens, count*f.tokens+f.more, c)
		}
	}
}

// What stands behind a long line, or many of them.
func TestG1FarBehind(t *testing.T) {
	text, count := filled("1", " ", "2")
	told(t, text, "0 0 1 2", "0 "+strconv.Itoa(count+1)+" 1 2")
	text, count = filled("1", "\n", " 2")
	told(t, text, "0 0 1 2", strconv.Itoa(count)+" 1 1 2")
	text, count = filled("{-", "\U0001F600", "-}2")
	told(t, text, "0 0 "+strconv.Itoa(2*count+4)+" 4", "0 "+strconv.Itoa(2*count+4)+" 1 2")
	text, count = filled("{-", "é\n", " -}2")
	told(t, text, "0 0 "+strconv.Itoa(2*count+5)+" 4", strconv.Itoa(count)+" 3 1 2")
}

// Names of all files, each of them full.
func TestG1FullWorkspace(t *testing.T) {
	text, _ := filled("", "use b.x;", "pub def y=x")
	texts := []string{text}
	for range api.MaxFiles - 1 {
		text, _ := filled("pub def x=1;", "def x(y)=y;", "")
		texts = append(texts, text)
	}
	if c, _ := last(t, texts...); c.Kind != 7 {
		t.Error(c)
	}
}

func TestG2LongRows(t *testing.T) {
	same := slices.Repeat(row("a"), 1<<20)
	mixed := slices.Repeat(row("ab"), 1<<19)
	for _, c := range [][2][]api.Colour{
		{same, same}, {same, same[1:]}, {same[1:], same}, {same, nil}, {nil, same}, {same, mixed}, {mixed, same},
		{mixed, mixed[1:]}, {mixed, mixed[2:]}, {mixed[2:], mixed}, {slices.Concat(same, row("b"), same), slices.Concat(same, same)},
	} {
		soon(t, func() {
			at, drop, put := Diff(c[0], c[1])
			if got, err := Patch(c[0], at, drop, put); err != nil || !slices.Equal(got, c[1]) {
				t.Errorf("%d, %d: %d, %v", len(c[0]), len(c[1]), len(got), err)
			}
		})
	}
}
