package lex

import (
	"strconv"
	"strings"
	"unicode/utf8"

	"amanuensis/api"
)

// maxHex is how many digits of sixteen a code point is written with at most.
const maxHex = 6

// Unquote gives what a text stands for.
func Unquote(s string) (string, bool) {
	if !alone(s, api.TText) {
		return "", false
	}
	var out strings.Builder
	r := readFrom(s[:len(s)-1], 1)
	for r.char != none {
		if r.char != '\\' {
			out.WriteString(r.bytes())
			r.pass()
			continue
		}
		r.pass()
		c, _ := r.taken()
		out.WriteRune(c)
	}
	return out.String(), true
}

// Quote gives the text that stands for one.
func Quote(s string) string {
	var out strings.Builder
	out.WriteByte('"')
	for r := readFrom(s, 0); r.char != none; r.pass() {
		switch c := r.char; {
		case c == '\n':
			out.WriteString(`\n`)
		case c == '\t':
			out.WriteString(`\t`)
		case c == '"', c == '\\':
			out.WriteByte('\\')
			out.WriteString(r.bytes())
		case c < 32, c == 127:
			out.WriteString(`\u{` + strconv.FormatInt(int64(c), 16) + `}`)
		default:
			out.WriteString(r.bytes())
		}
	}
	out.WriteByte('"')
	return out.String()
}

// taken goes on behind what the `\` ahead of the reader takes, and gives the character that both stand for; false, if they stand for none.
// A byte 10 is not gone behind: no text goes on there.
func (r *reader) taken() (rune, bool) {
	c := r.char
	if c == none || c == '\n' {
		return 0, false
	}
	r.pass()
	switch c {
	case 'n':
		return '\n', true
	case 't':
		return '\t', true
	case '"', '\\':
		return c, true
	case 'u':
		return r.codePoint()
	}
	return 0, false
}

// codePoint goes on behind a `{`, digits of sixteen and a `}`, as far as they are there, and gives the code point that they are; false, if they are none.
func (r *reader) codePoint() (rune, bool) {
	if r.char != '{' {
		return 0, false
	}
	r.pass()
	code, count := rune(0), 0
	for ; count < maxHex && hexOf(r.char) >= 0; count++ {
		code = code*16 + hexOf(r.char)
		r.pass()
	}
	if count == 0 || r.char != '}' {
		return 0, false
	}
	r.pass()
	return code, utf8.ValidRune(code)
}

// hexOf tells what a digit of sixteen counts; -1, if a character is none.
func hexOf(c rune) rune {
	switch {
	case isDigit(c):
		return c - '0'
	case 'a' <= c && c <= 'f':
		return c - 'a' + 10
	case 'A' <= c && c <= 'F':
		return c - 'A' + 10
	}
	return -1
}
