package lex

import "unicode/utf8"

// none is what a reader is at behind the last character.
const none rune = -1

// reader goes through a text character by character.
type reader struct {
	text string
	at   int  // where the character begins that it is at
	char rune // that character; a byte that is none counts as U+FFFD
	size int  // how many bytes it has
}

// readFrom makes a reader that is at the character that begins at a place.
func readFrom(text string, at int) *reader {
	r := &reader{text: text, at: at}
	r.look()
	return r
}

// look finds out at which character the reader is.
func (r *reader) look() {
	if r.at == len(r.text) {
		r.char, r.size = none, 0
		return
	}
	r.char, r.size = utf8.DecodeRuneInString(r.text[r.at:])
}

// pass goes on to the next character.
func (r *reader) pass() {
	r.at += r.size
	r.look()
}

// bytes gives those of the character that the reader is at.
func (r *reader) bytes() string { return r.text[r.at : r.at+r.size] }

// isSpace tells whether a character is one of those that a TSpace is made of.
func isSpace(c rune) bool { return c == ' ' || c == '\n' || c == '\t' || c == '\r' }

// isDigit tells whether a character is a digit of ten.
func isDigit(c rune) bool { return '0' <= c && c <= '9' }

// isLetter tells whether a name may begin with a character.
func isLetter(c rune) bool {
	switch {
	case 'a' <= c && c <= 'z', 'A' <= c && c <= 'Z', c == '_':
		return true
	case c == 0xD7, c == 0xF7:
		return false
	}
	return 0xC0 <= c && c <= 0x24F || 0x370 <= c && c <= 0x4FF
}
