package lex

import (
	"slices"
	"strings"
	"testing"
	"unicode/utf8"

	"amanuensis/api"
)

// K2: the words, and what is near them.
func TestK2Word(t *testing.T) {
	for _, w := range strings.Fields("use as pub def let in if then else fun true false") {
		if !Word(w) {
			t.Errorf("%q is a word", w)
		}
		for _, s := range []string{w + " ", " " + w, w[1:], w[:len(w)-1], strings.ToUpper(w), w + w, w + "\x00"} {
			if Word(s) {
				t.Errorf("%q is no word", s)
			}
		}
	}
	for _, s := range []string{"", " ", "x", "name", "\xff", "use as", "\u00e9", "{", "`", "1"} {
		if Word(s) {
			t.Errorf("%q is no word", s)
		}
	}
}

// K2: the table that is filled at the start has the words that Word knows, in the chapter's order, and nobody can write into it.
func TestK2Words(t *testing.T) {
	want := strings.Fields("use as pub def let in if then else fun true false")
	table := Words()
	if !slices.Equal(table[:], want) {
		t.Errorf("Words: %q, want %q", table, want)
	}
	for i, w := range table {
		if k := Tokens(w); !Word(w) || len(k) != 1 || k[0].Kind != api.TWord {
			t.Errorf("%q of the table is no word: %v", w, k)
		}
		table[i] = "x"
	}
	if Words() == table || Word("x") {
		t.Error("the table was written into")
	}
}

// K2: names, of at most 40 bytes.
func TestK2Name(t *testing.T) {
	for _, s := range []string{"a", "_", "x1", "\u00e9", "Use", "uses", strings.Repeat("a", 40), strings.Repeat("\u03bb", 20), "a" + strings.Repeat("9", 39)} {
		if !Name(s) {
			t.Errorf("%q is a name", s)
		}
	}
	for _, s := range []string{
		"", " ", "1", "1a", "a b", "a ", " a", "a.b", "use", "false", "\"a\"", "-", "--a", "\u00d7", "a\u00d7", "\xff", "a\xc3", "\xc3a", "a\n", "a{--}", "\x00", "a\x00",
		strings.Repeat("a", 41), strings.Repeat("\u03bb", 20) + "a", strings.Repeat("\u03bb", 21), strings.Repeat("a", 100000),
	} {
		if Name(s) {
			t.Errorf("%q is no name", s)
		}
	}
}

// K2: what texts stand for.
func TestK2Unquote(t *testing.T) {
	for s, want := range map[string]string{
		`""`: "", `"a b"`: "a b", `"\u{e9}\n"`: "\u00e9\n", `"\n\t\"\\"`: "\n\t\"\\", `"\\n"`: `\n`, `"\u{0}\u{7F}\u{10ffff}"`: "\x00\x7f\U0010ffff", `"\u{000041}"`: "A", `"\u{fffd}"`: "\ufffd",
		"\"\xff\xf0\x9f\u20ac\"": "\xff\xf0\x9f\u20ac", "\"\x00\r\t\"": "\x00\r\t", `"\u{c3}` + "\xa9\"": "\u00c3\xa9", `"--{-"`: "--{-", `"\\u{41}"`: `\u{41}`, `"\u{ABCDE}\u{abcde}"`: "\U000abcde\U000abcde",
	} {
		if got, ok := Unquote(s); got != want || !ok {
			t.Errorf("Unquote(%q): %q, %v, want %q", s, got, ok, want)
		}
	}
}

// K2: what is no TText alone stands for nothing.
func TestK2UnquoteWrong(t *testing.T) {
	for _, s := range []string{
		"", `"`, `a`, `a"`, `"a`, `"a" `, ` "a"`, `"a""b"`, `"a"b`, `"\"`, `"\q"`, `"\u{}"`, `"\u{d800}"`, `"\u{110000}"`, `"\u{0000041}"`, `"\u41"`, "\"a\nb\"", "\"\\\n\"", `'a'`, "\xff", `""""`, `"\u{41"`, `--""`, `{-""-}`,
	} {
		if got, ok := Unquote(s); got != "" || ok {
			t.Errorf("Unquote(%q): %q, %v", s, got, ok)
		}
	}
}

// K2: the texts that stand for some.
func TestK2Quote(t *testing.T) {
	for s, want := range map[string]string{
		"": `""`, "a b": `"a b"`, "\u00e9\n": "\"\u00e9\\n\"", "\n\t\"\\": `"\n\t\"\\"`, "\x00\x01\r\x1f\x7f": `"\u{0}\u{1}\u{d}\u{1f}\u{7f}"`, "\x08\v\x10": `"\u{8}\u{b}\u{10}"`,
		"\x20~": `" ~"`, "\u0080\u009f\u2028\ufeff": "\"\u0080\u009f\u2028\ufeff\"", "\xff\xf0\x9f": "\"\xff\xf0\x9f\"", `\n`: `"\\n"`, "\ufffd\U0010ffff": "\"\ufffd\U0010ffff\"", "'`{}$%": "\"'`{}$%\"",
	} {
		if got := Quote(s); got != want {
			t.Errorf("Quote(%q): %s, want %s", s, got, want)
		}
	}
}

// K2: what is quoted is a TText alone, and stands for what was quoted.
func TestK2ThereAndBack(t *testing.T) {
	d := dice(2)
	for range 20000 {
		s := d.text(d.below(12))
		q := Quote(s)
		if k := Tokens(q); len(k) != 1 || k[0].Kind != api.TText {
			t.Fatalf("Quote(%q): %s is %v", s, q, k)
		}
		if got, ok := Unquote(q); got != s || !ok {
			t.Fatalf("Unquote(%q): %q, %v, want %q", q, got, ok, s)
		}
	}
	for c := range rune(utf8.MaxRune + 1) {
		if got, ok := Unquote(Quote(string(c))); got != string(c) || !ok {
			t.Fatalf("Unquote of Quote of %U: %q, %v", c, got, ok)
		}
	}
}

// K2: Word, Name and Unquote say what the tokens say.
func TestK2LikeTokens(t *testing.T) {
	d := dice(3)
	for range 60000 {
		s := d.text(d.below(5))
		kind := 0
		if k := modelTokens(s); len(k) == 1 {
			kind = k[0].Kind
		}
		if Word(s) != (kind == api.TWord) || Name(s) != (kind == api.TName && len(s) <= api.MaxWord) {
			t.Fatalf("%q: Word %v, Name %v", s, Word(s), Name(s))
		}
		if got, ok := Unquote(s); ok != (kind == api.TText) || !ok && got != "" {
			t.Fatalf("Unquote(%q): %q, %v", s, got, ok)
		}
	}
}
