package lex

import (
	"slices"
	"strings"
	"testing"

	"amanuensis/api"
)

// told gives the tokens of a text as their kinds' letters and their texts; it tells of tokens that do not stand one behind the other from the beginning to the end.
func told(t *testing.T, text string) []string {
	t.Helper()
	var out []string
	at := 0
	for _, k := range Tokens(text) {
		if k.At != at || k.Len <= 0 || k.Kind < api.TSpace || k.Kind > api.TBad {
			t.Fatalf("%q: token %v at %d", text, k, at)
		}
		at += k.Len
		out = append(out, string(" srnwitgb"[k.Kind])+":"+text[k.At:at])
	}
	if at != len(text) {
		t.Fatalf("%q: tokens up to %d", text, at)
	}
	return out
}

// checkTold holds the tokens of texts against what they should be.
func checkTold(t *testing.T, all map[string][]string) {
	t.Helper()
	for text, want := range all {
		if got := told(t, text); !slices.Equal(got, want) {
			t.Errorf("%q: %q, want %q", text, got, want)
		}
	}
}

// one tells that a text is one token.
func one(letter string, texts ...string) map[string][]string {
	out := map[string][]string{}
	for _, text := range texts {
		out[text] = []string{letter + ":" + text}
	}
	return out
}

// K1: the chapter's table, by numbers.
func TestK1Examples(t *testing.T) {
	for text, want := range map[string][]api.Token{
		"":                 nil,
		"def x1=-- \u00e9": {{Kind: api.TWord, At: 0, Len: 3}, {Kind: api.TSpace, At: 3, Len: 1}, {Kind: api.TName, At: 4, Len: 2}, {Kind: api.TSign, At: 6, Len: 1}, {Kind: api.TRemark, At: 7, Len: 5}},
		"{- {- -}":         {{Kind: api.TBad, At: 0, Len: 8}},
		`"a\q"`:            {{Kind: api.TBad, At: 0, Len: 5}},
		"007":              {{Kind: api.TInt, At: 0, Len: 3}},
		"=>==":             {{Kind: api.TSign, At: 0, Len: 2}, {Kind: api.TSign, At: 2, Len: 2}},
	} {
		if got := Tokens(text); !slices.Equal(got, want) {
			t.Errorf("%q: %v, want %v", text, got, want)
		}
	}
}

func TestK1Spaces(t *testing.T) {
	checkTold(t, one("s", " ", "\t", "\n", "\r", " \t\r\n\n "))
	checkTold(t, map[string][]string{
		"a \v": {"n:a", "s: ", "b:\v"}, "\f\u00a0": {"b:\f", "b:\u00a0"}, " \u2028 ": {"s: ", "b:\u2028", "s: "}, "\x00": {"b:\x00"},
	})
}

func TestK1Remarks(t *testing.T) {
	checkTold(t, one("r", "--", "---", "-- x", "--{-", "--\r", "--\"\\", "--\xff\u20ac", "{--}", "{-{--}-}", "{---}", "{- - -}", "{-\n-}", "{--- } -}", "{-{-{--}-}{--}-}", "{-\"-}", "{-{{--}-}", "{-\xf0\x9f-}", "{-----}"))
	checkTold(t, map[string][]string{
		"--a\nb": {"r:--a", "s:\n", "n:b"}, "--\n\n": {"r:--", "s:\n\n"}, "- -": {"g:-", "s: ", "g:-"}, "+--": {"g:+", "r:--"}, "-}": {"g:-", "b:}"},
		"{-a-}}": {"r:{-a-}", "b:}"}, "{-a-}-}": {"r:{-a-}", "g:-", "b:}"}, "{--}{--}": {"r:{--}", "r:{--}"}, "{ -": {"b:{", "s: ", "g:-"}, "{{--}": {"b:{", "r:{--}"}, "-{--}": {"g:-", "r:{--}"},
		"--{-\n-}": {"r:--{-", "s:\n", "g:-", "b:}"},
	})
}

// K1: a remark that is not closed is bad up to the text's end; a `-` both opens and closes nothing.
func TestK1RemarksOpen(t *testing.T) {
	checkTold(t, one("b", "{-", "{-}", "{-{-}-}", "{- {- -}", "{-\n x \"\" \n", "{-{--}", "{--", "{- }-", "{-{-{--}-}", "{-\xff", "{"))
	checkTold(t, map[string][]string{"a{-}b\n": {"n:a", "b:{-}b\n"}})
	deep := strings.Repeat("{-", 1<<16)
	checkTold(t, one("b", deep, deep+strings.Repeat("-}", 1<<16-1)))
	checkTold(t, one("r", deep+strings.Repeat("-}", 1<<16)))
}

func TestK1Names(t *testing.T) {
	checkTold(t, one("n", "a", "z", "A", "Z", "_", "_0", "a9_Z", "\u00c0", "\u00d6", "\u00d8", "\u00f6", "\u00f8", "\u024f", "\u0370", "\u03ff", "\u0400", "\u04ff", "\u00e9\u03bb1", strings.Repeat("x", 5000)))
	checkTold(t, one("b", "\u00bf", "\u00d7", "\u00f7", "\u0250", "\u036f", "\u0500", "@", "`", "{", "\u0660", "\u00aa", "\u1e00"))
	checkTold(t, map[string][]string{
		"a-b": {"n:a", "g:-", "n:b"}, "9a9": {"i:9", "n:a9"}, "a\u00d7b": {"n:a", "b:\u00d7", "n:b"}, "a\u0661": {"n:a", "b:\u0661"}, "a'": {"n:a", "b:'"}, "\u00e9\xc3": {"n:\u00e9", "b:\xc3"},
	})
}

func TestK1Words(t *testing.T) {
	all := strings.Fields("use as pub def let in if then else fun true false")
	checkTold(t, one("w", all...))
	for _, w := range all {
		checkTold(t, one("n", w+"s", w+"1", w+"_", "x"+w, strings.ToUpper(w), w+w, w+"\u00e9", w[:1]))
		checkTold(t, map[string][]string{w + "." + w: {"w:" + w, "g:.", "w:" + w}, "1" + w: {"i:1", "w:" + w}})
	}
}

func TestK1Ints(t *testing.T) {
	checkTold(t, one("i", "0", "9", "007", "999999999999999999", "000000000000000000"))
	checkTold(t, one("b", "9999999999999999999", "0000000000000000000", strings.Repeat("1", 400)))
	checkTold(t, map[string][]string{
		"-1": {"g:-", "i:1"}, "1.5": {"i:1", "g:.", "i:5"}, "1_0": {"i:1", "n:_0"}, "0x1": {"i:0", "n:x1"},
		"1234567890123456789a": {"b:1234567890123456789", "n:a"}, "123456789012345678 9": {"i:123456789012345678", "s: ", "i:9"},
	})
}

func TestK1Texts(t *testing.T) {
	checkTold(t, one("t", `""`, `"a"`, `"\n\t\"\\"`, `"\\"`, `"\u{0}"`, `"\u{10FFFF}"`, `"\u{10ffff}"`, `"\u{d7ff}\u{E000}"`, `"\u{000041}"`, `"--"`, `"{-"`, "\"\t\r\x00\x7f\"", "\"\xff\xc3\u20ac\"", `"\\u{}"`, `"u{d800}"`))
	checkTold(t, map[string][]string{
		`"a""b"`: {`t:"a"`, `t:"b"`}, `"\\"a"`: {`t:"\\"`, "n:a", `b:"`}, `a"b"c`: {"n:a", `t:"b"`, "n:c"}, `\"\"`: {`b:\`, `b:"\"`},
	})
}

// K1: a text that is not closed ends ahead of the byte 10, or at the text's end, also if a `\` stands there.
func TestK1TextsOpen(t *testing.T) {
	checkTold(t, one("b", `"`, `"a`, `"\`, `"\"`, `"a\\\"`, `"\u{`, "\"\xff", `"\q`))
	checkTold(t, map[string][]string{
		"\"a\nb\"": {`b:"a`, "s:\n", "n:b", `b:"`}, "\"\\\n\"": {`b:"\`, "s:\n", `b:"`}, "\"\n": {`b:"`, "s:\n"}, "\"\\u{\n}\"": {`b:"\u{`, "s:\n", "b:}", `b:"`}, "\"a\r\n": {"b:\"a\r", "s:\n"},
	})
}

// K1: a text that is closed is bad, if a `\` takes what it may not; it ends where it would otherwise.
func TestK1TextsBad(t *testing.T) {
	checkTold(t, one("b", `"\q"`, `"\N"`, `"\ "`, `"\0"`, `"\u"`, `"\u41"`, `"\u{}"`, `"\u{41"`, `"\u{g}"`, `"\u{0000041}"`, `"\u{110000}"`, `"\u{ffffff}"`, `"\u{d800}"`, `"\u{DFFF}"`, `"\u {41}"`, `"\u{4 1}"`, `"\u{-1}"`,
		`"\U{41}"`, `"\q\n"`, `"\n\q"`, "\"\\\xff\"", "\"\\\u00e9\"", "\"\\\t\"", `"\u{\"}"`, `"\u\"`+`"`, `"\q\"`+`"`))
	checkTold(t, map[string][]string{
		`"\u{"}"`: {`b:"\u{"`, "b:}", `b:"`}, `"\q"a"`: {`b:"\q"`, "n:a", `b:"`}, `"\u"{41}`: {`b:"\u"`, "b:{", "i:41", "b:}"}, `"\q" "\n"`: {`b:"\q"`, "s: ", `t:"\n"`},
	})
}

func TestK1Signs(t *testing.T) {
	all := []string{"=>", "==", "++"}
	for _, c := range "()[],;=<+-*.?" {
		all = append(all, string(c))
	}
	checkTold(t, one("g", all...))
	checkTold(t, map[string][]string{
		"===": {"g:==", "g:="}, "==>": {"g:==", "b:>"}, "=>>": {"g:=>", "b:>"}, "=>=": {"g:=>", "g:="}, "= >": {"g:=", "s: ", "b:>"}, "+++": {"g:++", "g:+"}, "<=": {"g:<", "g:="}, "<=>": {"g:<", "g:=>"},
		"+=": {"g:+", "g:="}, "=+": {"g:=", "g:+"}, "->": {"g:-", "b:>"}, "..": {"g:.", "g:."}, "()": {"g:(", "g:)"}, "??": {"g:?", "g:?"},
	})
}

// K1: all else is bad, a character at a time.
func TestK1Bad(t *testing.T) {
	for c := range rune(128) {
		if !strings.ContainsRune("\t\n\r abcdefghijklmnopqrstuvwxyzABCDEFGHIJKLMNOPQRSTUVWXYZ_0123456789\"()[],;=<+-*.?", c) {
			checkTold(t, one("b", string(c)))
			checkTold(t, map[string][]string{string(c) + string(c): {"b:" + string(c), "b:" + string(c)}})
		}
	}
	checkTold(t, map[string][]string{
		"\u20ac\U0001f600\ufffd": {"b:\u20ac", "b:\U0001f600", "b:\ufffd"}, "\xff\xfe": {"b:\xff", "b:\xfe"}, "\xf0\x9f\x98": {"b:\xf0", "b:\x9f", "b:\x98"},
		"\xed\xa0\x80": {"b:\xed", "b:\xa0", "b:\x80"}, "\xc0\x80": {"b:\xc0", "b:\x80"}, "\xc3a": {"b:\xc3", "n:a"}, "\xf4\x90\x80\x80": {"b:\xf4", "b:\x90", "b:\x80", "b:\x80"}, "\xe2\x82\u20ac": {"b:\xe2", "b:\x82", "b:\u20ac"},
	})
}

// K1, of many texts: as a model has it.
func TestK1Model(t *testing.T) {
	d := dice(1)
	for range 60000 {
		text := d.text(d.below(12))
		if got, want := Tokens(text), modelTokens(text); !slices.Equal(got, want) {
			t.Fatalf("%q: %v, want %v", text, got, want)
		}
	}
}

// K1, of every character alone, and behind a letter.
func TestK1EveryCharacter(t *testing.T) {
	for c := range rune(0x110000) {
		text := "x" + string(c)
		if got, want := Tokens(text), modelTokens(text); !slices.Equal(got, want) {
			t.Fatalf("%q: %v, want %v", text, got, want)
		}
	}
}

// P2: the tokens are the caller's.
func TestTokensFresh(t *testing.T) {
	a, b := Tokens("a b"), Tokens("a b")
	a[0].Kind = api.TBad
	if b[0].Kind != api.TName || Tokens("a b")[0].Kind != api.TName {
		t.Error("two lists share their memory")
	}
}

// The first token of a text is what Tokens has first.
func TestK1First(t *testing.T) {
	for _, text := range []string{"x", "x1é y", "  x", "-- so\nx", "{- {- -}", "\"a\" b", "\xff\xff", "=>=", "1234567890123456789", "def"} {
		if got, want := First(text), Tokens(text)[0]; got != want {
			t.Errorf("%q: %v, want %v", text, got, want)
		}
	}
	if got := First(""); got != (api.Token{Kind: api.TEnd}) {
		t.Errorf("of nothing: %v", got)
	}
}
