package lex

import (
	"strings"

	"amanuensis/api"
)

// maxDigits is how many digits a TInt has at most.
const maxDigits = 18

// signs are those of one character.
const signs = "()[],;=<+-*.?"

// token reads the token that begins where the reader is; it must not be at the end.
func (r *reader) token() api.Token {
	begin := r.at
	kind := r.kind()
	return api.Token{Kind: kind, At: begin, Len: r.at - begin}
}

// kind goes on behind the token that begins where the reader is, and tells its kind.
func (r *reader) kind() int {
	begin, first := r.at, r.char
	r.pass()
	switch {
	case isSpace(first):
		goto space
	case isLetter(first):
		goto name
	case isDigit(first):
		goto number
	case first == '"':
		return r.quoted()
	case first == '{' && r.char == '-':
		r.pass()
		return r.nested()
	case first == '-' && r.char == '-':
		goto remark
	case isPair(first, r.char):
		r.pass()
		return api.TSign
	case strings.ContainsRune(signs, first):
		return api.TSign
	}
	return api.TBad
space:
	if isSpace(r.char) {
		r.pass()
		goto space
	}
	return api.TSpace
name:
	if isLetter(r.char) || isDigit(r.char) {
		r.pass()
		goto name
	}
	if isWord(r.text[begin:r.at]) {
		return api.TWord
	}
	return api.TName
number:
	if isDigit(r.char) {
		r.pass()
		goto number
	}
	if r.at-begin > maxDigits {
		return api.TBad
	}
	return api.TInt
remark:
	if r.char != '\n' && r.char != none {
		r.pass()
		goto remark
	}
	return api.TRemark
}

// isPair tells whether two characters are a sign.
func isPair(first, second rune) bool {
	switch first {
	case '=':
		return second == '>' || second == '='
	case '+':
		return second == '+'
	}
	return false
}

// nested goes on from behind a `{-` to behind the `-}` that closes it, and tells what they are.
func (r *reader) nested() int {
	open := 1
inside:
	switch r.char {
	case none:
		return api.TBad
	case '{':
		goto brace
	case '-':
		goto dash
	}
	r.pass()
	goto inside
brace:
	r.pass()
	if r.char == '-' {
		open++
		r.pass() // so that this `-` closes nothing
	}
	goto inside
dash:
	r.pass()
	if r.char != '}' {
		goto inside
	}
	r.pass()
	open--
	if open > 0 {
		goto inside
	}
	return api.TRemark
}

// quoted goes on from behind a `"` to behind the one that closes it, or to where it can no longer be closed, and tells what they are.
func (r *reader) quoted() int {
	kind := api.TText
inside:
	switch r.char {
	case none, '\n':
		return api.TBad
	case '"':
		r.pass()
		return kind
	case '\\':
		goto slash
	}
	r.pass()
	goto inside
slash:
	r.pass()
	if _, ok := r.taken(); !ok {
		kind = api.TBad
	}
	goto inside
}
