package lex

import (
	"regexp"
	"slices"
	"strconv"
	"strings"
	"unicode/utf8"

	"amanuensis/api"
)

// What tokens look like, as the chapter tells it, for a model that the automaton can be held against.
var (
	likeSpace  = regexp.MustCompile(`^[\t\n\r ]+`)
	likeRemark = regexp.MustCompile(`^--[^\n]*`)
	likeName   = regexp.MustCompile(`^[a-zA-Z_\x{C0}-\x{D6}\x{D8}-\x{F6}\x{F8}-\x{24F}\x{370}-\x{4FF}][a-zA-Z_0-9\x{C0}-\x{D6}\x{D8}-\x{F6}\x{F8}-\x{24F}\x{370}-\x{4FF}]*`)
	likeInt    = regexp.MustCompile(`^[0-9]+`)
	likeClosed = regexp.MustCompile(`^"(?:[^"\\\n]|\\[^\n])*"`)
	likeOpen   = regexp.MustCompile(`^"(?:[^"\\\n]|\\[^\n])*\\?`)
	likeParts  = regexp.MustCompile(`\\u\{([0-9a-fA-F]{1,6})\}|\\[^u]|[^\\]|\\u`)
	likeSign   = regexp.MustCompile(`^(?:=>|==|\+\+|[()\[\],;=<+\-*.?])`)
)

func modelWord(s string) bool {
	return slices.Contains([]string{"use", "as", "pub", "def", "let", "in", "if", "then", "else", "fun", "true", "false"}, s)
}

// modelNested gives where the remark ends that a text begins with behind its `{-`; -1, if it is not closed.
func modelNested(text string, at int) int {
	for at < len(text) {
		switch {
		case strings.HasPrefix(text[at:], "{-"):
			if at = modelNested(text, at+2); at < 0 {
				return -1
			}
		case strings.HasPrefix(text[at:], "-}"):
			return at + 2
		default:
			at++
		}
	}
	return -1
}

// modelText gives the kind of a text that is closed.
func modelText(s string) int {
	for _, part := range likeParts.FindAllStringSubmatch(s[1:len(s)-1], -1) {
		if part[1] != "" {
			code, err := strconv.ParseInt(part[1], 16, 64)
			if err != nil || code > 0x10FFFF || 0xD800 <= code && code <= 0xDFFF {
				return api.TBad
			}
		} else if part[0][0] == '\\' && !strings.Contains(`\n \t \" \\`, part[0]) {
			return api.TBad
		}
	}
	return api.TText
}

// modelFirst gives kind and length of the first token of a text that is not empty.
func modelFirst(text string) (int, int) {
	if s := likeSpace.FindString(text); s != "" {
		return api.TSpace, len(s)
	}
	if s := likeRemark.FindString(text); s != "" {
		return api.TRemark, len(s)
	}
	if strings.HasPrefix(text, "{-") {
		if end := modelNested(text, 2); end >= 0 {
			return api.TRemark, end
		}
		return api.TBad, len(text)
	}
	if s := likeName.FindString(text); modelWord(s) {
		return api.TWord, len(s)
	} else if s != "" {
		return api.TName, len(s)
	}
	if s := likeInt.FindString(text); len(s) > 18 {
		return api.TBad, len(s)
	} else if s != "" {
		return api.TInt, len(s)
	}
	if s := likeClosed.FindString(text); s != "" {
		return modelText(s), len(s)
	}
	if s := likeOpen.FindString(text); s != "" {
		return api.TBad, len(s)
	}
	if s := likeSign.FindString(text); s != "" {
		return api.TSign, len(s)
	}
	_, size := utf8.DecodeRuneInString(text)
	return api.TBad, size
}

// modelFrom gives the tokens of a text from a place on, till one would begin where stop says so.
func modelFrom(text string, at int, stop func(at int) bool) []api.Token {
	var out []api.Token
	for at < len(text) && !stop(at) {
		kind, size := modelFirst(text[at:])
		out = append(out, api.Token{Kind: kind, At: at, Len: size})
		at += size
	}
	return out
}

func modelTokens(text string) []api.Token {
	return modelFrom(text, 0, func(int) bool { return false })
}

// modelAnew tells how many tokens are looked at anew, as K3 has it.
func modelAnew(text string, s api.Span) int {
	after := text[:s.From] + s.Text + text[s.To:]
	grown, begin := len(after)-len(text), 0
	starts := map[int]bool{len(after): true}
	for _, t := range modelTokens(text) {
		if t.At+t.Len+4 <= s.From {
			begin = t.At + t.Len
		}
		if t.At >= s.To {
			starts[t.At+grown] = true
		}
	}
	return len(modelFrom(after, begin, func(at int) bool { return at >= s.From+len(s.Text) && starts[at] }))
}

// dice gives numbers that look as if thrown, the same ones each time.
type dice uint64

func (d *dice) below(n int) int {
	*d = *d*6364136223846793005 + 1442695040888963407
	return int(uint64(*d)>>33) % n
}

// pieces are what texts are put together from: tokens, beginnings and ends of some, and bytes that become characters beside others.
func pieces() []string {
	return []string{
		"def", "use", "in", "a", "x1", "_", "0", "7", "123456789012345678", "9", " ", "\t", "\r", "\n", "\n", "--", "-", "{-", "-}", "{", "}",
		`"`, `"`, `\`, `\n`, `\"`, `\\`, `\q`, `\u`, `\u{e9}`, `\u{d800}`, `\u{10ffff}`, `\u{110000}`, `\u{}`, `\u{0000000}`, "u{41}",
		"=>", "==", "++", "=", "+", ">", "(", ")", "[", "]", ",", ";", "<", "*", ".", "?", "@", "\x00",
		"\u00e9", "\u00d7", "\u00f7", "\u0250", "\u03bb", "\u0436", "\u0500", "\u20ac", "\U0001f600",
		"\xff", "\xc3", "\xa9", "\xce", "\xbb", "\xe2", "\x82", "\xac", "\xf0", "\x9f", "\x98", "\x80", "\xed\xa0", "\xf4\x90",
	}
}

func (d *dice) text(parts int) string {
	var b strings.Builder
	all := pieces()
	for range parts {
		b.WriteString(all[d.below(len(all))])
	}
	return b.String()
}
