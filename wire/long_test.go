package wire

import (
	"fmt"
	"strings"
	"testing"
	"time"

	"amanuensis/api"
)

// soon fails if something takes long.
func soon(t *testing.T, do func()) {
	t.Helper()
	begin := time.Now()
	do()
	if spent := time.Since(begin); spent > 20*time.Second {
		t.Errorf("it took %v", spent)
	}
}

const many = 1 << 18

func TestJ2LongTexts(t *testing.T) {
	keys := make([]string, many)
	for i := range keys {
		keys[i] = fmt.Sprintf(`"%d":0`, i)
	}
	for _, c := range []struct {
		in   string
		kids int
	}{
		{"[" + strings.Repeat("1,", many) + "1]", many + 1},
		{"[" + strings.Repeat("{},[],", many) + "1]", 2*many + 1},
		{"{" + strings.Join(keys, ",") + "}", many},
		{strings.Repeat(" \n", many) + "[" + strings.Repeat("\t", many) + "]" + strings.Repeat(" ", many), 0},
	} {
		soon(t, func() {
			j, at, err := Parse(c.in)
			if err != nil || len(j.Kids) != c.kids {
				t.Errorf("%.40q: %d %v, %d", c.in, at, err, len(j.Kids))
			}
			checkPrint(t, j)
		})
	}
	for _, piece := range []string{"a", `\n`, `\u00e9`, `\ud83d\ude00`, "\xff", `\"`} {
		soon(t, func() {
			one := read1(t, `"`+piece+`"`).Text
			if got := read1(t, `"`+strings.Repeat(piece, many)+`"`).Text; got != strings.Repeat(one, many) {
				t.Errorf("%q: %d bytes", piece, len(got))
			}
		})
	}
}

// read1 gives the value of a text.
func read1(t *testing.T, in string) api.Json {
	t.Helper()
	j, at, err := Parse(in)
	if err != nil {
		t.Fatalf("%.40q: %d %v", in, at, err)
	}
	return j
}

func TestJ2LongFaults(t *testing.T) {
	for _, c := range []struct {
		in   string
		at   int
		name string
	}{
		{strings.Repeat("1", many), 0, "ErrSyntax"},
		{"[-" + strings.Repeat("0", many), 1, "ErrSyntax"},
		{strings.Repeat(" ", many), many, "ErrSyntax"},
		{`"` + strings.Repeat("a", many), many + 1, "ErrSyntax"},
		{`"` + strings.Repeat(`\\`, many) + `\`, 2*many + 1, "ErrSyntax"},
		{"[" + strings.Repeat("1,", many) + "]", 2*many + 1, "ErrSyntax"},
		{"[" + strings.Repeat("nul", many), 1, "ErrSyntax"},
		{strings.Repeat("[", many), api.MaxDeep, "ErrFull"},
		{strings.Repeat(`{"":`, many), 4 * api.MaxDeep, "ErrFull"},
		{strings.Repeat("]", many), 0, "ErrSyntax"},
	} {
		soon(t, func() { wrong(t, c.in, c.at, c.name) })
	}
}

// Bytes that come one by one.
func TestJ4SlowFeed(t *testing.T) {
	body := strings.Repeat("x\r\n", many)
	soon(t, func() {
		r := New()
		in := Frame(body) + strings.Repeat("X: y\r\n", 10000) + Frame("")
		var got []string
		for i := range len(in) {
			some, err := r.Feed(in[i : i+1])
			if err != nil {
				t.Fatal(i, err)
			}
			got = append(got, some...)
		}
		if len(got) != 2 || got[0] != body || got[1] != "" {
			t.Error(len(got))
		}
	})
}

// Many frames, and many lines, in one chunk.
func TestJ4LongChunks(t *testing.T) {
	soon(t, func() {
		got, err := New().Feed(strings.Repeat(Frame("ab"), many) + strings.Repeat(lineOf(1000)+"\r\n", 2000) + Frame(strings.Repeat("c", many)))
		if err != nil || len(got) != many+1 || got[many-1] != "ab" || len(got[many]) != many {
			t.Error(len(got), err)
		}
	})
}

// A length that is told needs no memory by itself.
func TestJ4GreatLengths(t *testing.T) {
	soon(t, func() {
		for range 1000 {
			answers(t, "Content-Length: 9999999999\r\n\r\na", "[] OK", "b", "[] OK")
		}
	})
}
