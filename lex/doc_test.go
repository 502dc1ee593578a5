package lex

import (
	"math"
	"slices"
	"strings"
	"sync"
	"testing"

	"amanuensis/api"
	"amanuensis/plain"
)

// replaced makes a replacement that must come about, holds it against what would be made anew, and gives what came of it and how many tokens were looked at anew.
func replaced(t *testing.T, d *Doc, s api.Span) (*Doc, int) {
	t.Helper()
	text, tokens := d.Text(), d.Tokens()
	q, n, err := d.Replace(s)
	if err != nil || q == nil {
		t.Fatalf("%q, Replace %v: %v", text, s, err)
	}
	after := text[:s.From] + s.Text + text[s.To:]
	if q.Text() != after || !slices.Equal(q.Tokens(), modelTokens(after)) {
		t.Fatalf("%q, Replace %v: %q, %v, want %v", text, s, q.Text(), q.Tokens(), modelTokens(after))
	}
	if want := modelAnew(text, s); n != want {
		t.Fatalf("%q, Replace %v: %d looked at anew, want %d", text, s, n, want)
	}
	if d.Text() != text || !slices.Equal(d.Tokens(), tokens) {
		t.Fatalf("%q, Replace %v changed the first one", text, s)
	}
	return q, n
}

// K3: a text with its tokens.
func TestK3New(t *testing.T) {
	for _, text := range []string{"", "a", "def f(x) = x;\n", "{-", "\xff\"\n", strings.Repeat("a ", 5000)} {
		d := New(text)
		if d.Text() != text || !slices.Equal(d.Tokens(), Tokens(text)) {
			t.Errorf("New(%q): %q, %v", text, d.Text(), d.Tokens())
		}
	}
}

// K3: how many are looked at anew, by numbers.
func TestK3Anew(t *testing.T) {
	for _, c := range []struct {
		text     string
		from, to int
		put      string
		want     int
	}{
		{"a b c d", 3, 3, "x", 3},               // the chapter's
		{"", 0, 0, "", 0}, {"", 0, 0, "a b", 3}, // of nothing
		{"a b", 0, 3, "", 0}, {"a b", 0, 1, "", 0}, // nothing is left to look at
		{"a b", 0, 0, "", 0}, {"a b c d", 4, 4, "", 4}, // nothing changes
		{"a b", 0, 0, "x", 1}, {"a b", 0, 0, "x ", 2}, {"a b", 0, 0, "+", 1}, // at the beginning
		{"a b c d", 7, 7, "x", 4}, {"a b c d", 7, 7, " ", 5}, {"a b c d", 7, 7, "", 4}, // at the end
		{"abcd(efgh)", 5, 5, "x", 3}, {"abcd(efgh)", 8, 8, "x", 2}, {"abcd(efgh)", 9, 9, "x", 1}, // three bytes ahead of it, and four
		{"a b c d e f", 6, 7, "--", 5}, {"a b c d e f", 6, 7, "{-", 5}, {"a b {- c -} d", 4, 5, "", 10}, {"{-a-}b-}", 5, 5, "{-", 2}, // to the end
		{"a b c d", 1, 1, "\"", 2}, {"\"a b c d", 0, 1, "", 7}, {"a b\nc d", 2, 2, "\"", 3}, // quotes
		{"ab cd ef", 4, 7, "", 3}, {"ab cd ef", 3, 5, "x", 3}, {"ab cd ef", 2, 3, "", 1}, // tokens that become one, or another one
	} {
		_, n := replaced(t, New(c.text), api.Span{From: c.from, To: c.to, Text: c.put})
		if n != c.want {
			t.Errorf("%q, Replace %d %d %q: %d looked at anew, want %d", c.text, c.from, c.to, c.put, n, c.want)
		}
	}
}

// K3: how many tokens stay ahead: those that end four bytes or more ahead.
func TestK3Ahead(t *testing.T) {
	d := New("ab+ \"\u00e9\";") // they end at 2, 3, 4, 8 and 9
	for from, want := range map[int]int{0: 0, 5: 0, 6: 1, 7: 2, 8: 3, 9: 3, 11: 3, 12: 4, 13: 5, 14: 5, -1: 0, -5: 0, math.MinInt: 0, math.MinInt + 3: 0, math.MaxInt: 5} {
		if got := d.Ahead(from); got != want {
			t.Errorf("Ahead(%d): %d, want %d", from, got, want)
		}
	}
	if got := New("").Ahead(9); got != 0 {
		t.Errorf("Ahead in an empty text: %d", got)
	}
}

// K3: pieces put in next to and within tokens, and taken out there, at every place of some texts.
func TestK3EveryPlace(t *testing.T) {
	texts := []string{
		"def f(x) = x + 1;", "a{- b {- c -} -}d", "--a\n--b\n", "\"a\\\"b\" \"\\u{e9}\"\n\"c", "123456789012345678 9", "=>==++=", "use\u00e9 \u03bb1", "\xf0\x9f\x98\x80\xe2\x82\xac\xc3\xa9", "\xf0\x9f\x98\xe2\x82\xc3",
	}
	puts := []string{"", " ", "\n", "x", "9", "-", "--", "{-", "-}", "\"", "\\", "=", ">", "+", "}", "\x80", "\xac", "\xa9", "\xf0", "\xc3"}
	for _, text := range texts {
		d := New(text)
		for from := 0; from <= len(text); from++ {
			for to := from; to <= min(from+4, len(text)); to++ {
				for _, put := range puts {
					replaced(t, d, api.Span{From: from, To: to, Text: put})
				}
			}
		}
	}
}

// K3: halves that come to be one character, and a character that comes to be two halves.
func TestK3Halves(t *testing.T) {
	for _, c := range []string{"\u00e9", "\u00d7", "\u20ac", "\U0001f600"} {
		for cut := 1; cut < len(c); cut++ {
			for _, ahead := range []string{"", "a", "abcd ", "+", "\"", "1", "\xf0", "\xff\xff\xff\xff"} {
				at := len(ahead) + cut
				apart := ahead + c[:cut] + "-" + c[cut:] + " b"
				whole, _ := replaced(t, New(apart), api.Span{From: at, To: at + 1})
				replaced(t, whole, api.Span{From: at, To: at, Text: "-"})
				first, _ := replaced(t, New(ahead+c[:cut]), api.Span{From: at, To: at, Text: c[cut:]})
				replaced(t, first, api.Span{From: len(ahead), To: at})
			}
		}
	}
}

// K3: what is not there is not replaced.
func TestK3Wrong(t *testing.T) {
	wrong := [][2]int{{-1, 0}, {-1, -1}, {-1, 3}, {0, 4}, {4, 4}, {3, 4}, {2, 1}, {3, 0}, {4, 3}}
	for _, n := range []int{math.MinInt, math.MinInt + 3, -1 << 32, 1 << 32, math.MaxInt - 3, math.MaxInt} {
		wrong = append(wrong, [2]int{n, 1}, [2]int{1, n}, [2]int{n, n})
	}
	d := New("a b")
	for _, w := range wrong {
		q, n, err := d.Replace(api.Span{From: w[0], To: w[1], Text: "x"})
		if q != nil || n != 0 || plain.Told(err) != api.ErrRange {
			t.Errorf("Replace %d %d: %v, %d, %v", w[0], w[1], q, n, err)
		}
		if d.Text() != "a b" || !slices.Equal(d.Tokens(), modelTokens("a b")) {
			t.Errorf("Replace %d %d changed the text", w[0], w[1])
		}
	}
	if q, n, err := New("").Replace(api.Span{From: 0, To: 1}); q != nil || n != 0 || plain.Told(err) != api.ErrRange {
		t.Errorf("Replace in an empty text: %v, %d, %v", q, n, err)
	}
}

// K3: one replacement behind the other.
func TestK3Chains(t *testing.T) {
	d := dice(4)
	for range 400 {
		doc := New(d.text(d.below(30)))
		for range 40 {
			size := len(doc.Text())
			from := d.below(size + 1)
			to := min(size, from+d.below(3)*d.below(6))
			doc, _ = replaced(t, doc, api.Span{From: from, To: to, Text: d.text(d.below(3))})
		}
	}
}

// K3: in a long text few tokens are looked at anew, wherever something is put in.
func TestK3Long(t *testing.T) {
	doc := New(strings.Repeat("def f(x) = x + 1;\n", 5000))
	size := len(doc.Text())
	for at := 0; at < size; at += size / 60 {
		q, n, err := doc.Replace(api.Span{From: at, To: at, Text: "y"})
		if err != nil || n > 6 {
			t.Fatalf("at %d: %d looked at anew, %v", at, n, err)
		}
		if !slices.Equal(q.Tokens(), Tokens(q.Text())) {
			t.Fatalf("at %d: other tokens than anew", at)
		}
	}
}

// P2: what comes out is the caller's.
func TestK3Fresh(t *testing.T) {
	d := New("a b c d e f")
	q, _ := replaced(t, d, api.Span{From: 6, To: 7, Text: "xx"})
	for _, one := range []*Doc{d, q} {
		got := one.Tokens()
		for i := range got {
			got[i] = api.Token{}
		}
	}
	if !slices.Equal(d.Tokens(), modelTokens(d.Text())) || !slices.Equal(q.Tokens(), modelTokens(q.Text())) {
		t.Error("a list that came out is kept")
	}
	replaced(t, q, api.Span{From: 0, To: 1})
	replaced(t, d, api.Span{From: 0, To: 1})
}

// P2: a text that several look at, and make others of, answers all of them alike.
func TestK3ManyHands(t *testing.T) {
	d := New(strings.Repeat("def f(x) = \"\u00e9\";\n", 50))
	text := d.Text()
	var hands sync.WaitGroup
	for k := range 8 {
		hands.Go(func() {
			for at := k; at < len(text); at += 31 {
				q, n, err := d.Replace(api.Span{From: at, To: at, Text: "{-"})
				if err != nil || n == 0 || !slices.Equal(q.Tokens(), Tokens(text[:at]+"{-"+text[at:])) {
					t.Errorf("Replace at %d: %d, %v", at, n, err)
				}
			}
		})
	}
	hands.Wait()
	if d.Text() != text || !slices.Equal(d.Tokens(), Tokens(text)) {
		t.Error("the text is not what it was")
	}
}
