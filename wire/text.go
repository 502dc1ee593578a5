package wire

import (
	"strconv"
	"strings"
)

// The bytes behind `\` that make an escape of two bytes, and what these stand for.
const (
	escapeLetters = `"\/bfnrt`
	escapeBytes   = "\"\\/\b\f\n\r\t"
)

// The halves of code points of 10000 and above: the first ones, the second ones, and what comes behind these.
const (
	firstHalves  = 0xD800
	secondHalves = 0xDC00
	noMoreHalves = 0xE000
)

// unitLen is how many bytes a `\u` and its digits have.
const unitLen = 6

// quoted reads a text from its `"`, which is next, to the one that closes it, and gives what it stands for.
func (s *source) quoted() string {
	var b strings.Builder
	s.at++
	for {
		b.WriteString(s.plain())
		switch s.next() {
		case '"':
			s.at++
			return b.String()
		case '\\':
			b.WriteRune(s.escape())
		default:
			s.stop()
		}
	}
}

// plain reads the bytes of a text that stand for themselves.
func (s *source) plain() string {
	from := s.at
	for c := s.next(); c >= ' ' && c != '"' && c != '\\'; c = s.next() {
		s.at++
	}
	return s.text[from:s.at]
}

func (s *source) escape() rune {
	r, size := escaped(s.text[s.at:])
	if size == 0 {
		s.stop()
	}
	s.at += size
	return r
}

// escaped gives the code point of the escape with which a text begins, and how many bytes that has: 0, if it is none.
func escaped(text string) (rune, int) {
	r, ok := unit(text)
	switch {
	case !ok:
		return short(text)
	case r < firstHalves || r >= noMoreHalves:
		return r, unitLen
	case r >= secondHalves:
		return 0, 0
	}
	second, ok := unit(text[unitLen:])
	if !ok || second < secondHalves || second >= noMoreHalves {
		return 0, 0
	}
	return 0x10000 + (r-firstHalves)<<10 + second - secondHalves, 2 * unitLen
}

// unit gives the number of a `\u` and four digits of sixteen, if a text begins with these.
func unit(text string) (rune, bool) {
	if len(text) < unitLen || text[:2] != `\u` {
		return 0, false
	}
	n, err := strconv.ParseUint(text[2:unitLen], 16, 16)
	return rune(n), err == nil
}

// short is as escaped, of the escapes of two bytes.
func short(text string) (rune, int) {
	if len(text) < 2 {
		return 0, 0
	}
	k := strings.IndexByte(escapeLetters, text[1])
	if k < 0 {
		return 0, 0
	}
	return rune(escapeBytes[k]), 2
}

// escapeOf gives the escape that Print has for a byte; nothing, if it has none.
func escapeOf(c byte) string {
	const digits = "0123456789abcdef"
	switch {
	case c == '"':
		return `\"`
	case c == '\\':
		return `\\`
	case c == '\n':
		return `\n`
	case c == '\r':
		return `\r`
	case c == '\t':
		return `\t`
	case c < ' ':
		return `\u00` + digits[c/16:c/16+1] + digits[c%16:c%16+1]
	}
	return ""
}
