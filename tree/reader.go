package tree

import (
	"amanuensis/api"
	"amanuensis/lex"
)

// What is missing is told by these names where it is no sign and no word; they are no words of the language, so none of both is meant by them.
const (
	aName        = "name"
	anExpression = "expression"
)

// reader goes through the tokens of a text, from the left.
type reader struct {
	text   string
	tokens []api.Token
	at     int    // how many tokens have been taken
	next   int    // which token is next: spaces and remarks never are
	kind   int    // its kind; TEnd, if nothing is next
	word   string // its text
	deep   int    // in how many branches that count for MaxNest it stands
}

// readerOf makes a reader that has taken nothing.
func readerOf(doc *lex.Doc) *reader {
	r := &reader{text: doc.Text(), tokens: doc.Tokens()}
	r.look()
	return r
}

// nextFrom finds the first token, from one on, that is no space and no remark; if there is none, it is one behind the last, or further.
func (r *reader) nextFrom(at int) int {
	for at < len(r.tokens) && isQuiet(r.tokens[at].Kind) {
		at++
	}
	return at
}

// look finds out what is next.
func (r *reader) look() {
	r.next, r.kind, r.word = r.nextFrom(r.at), api.TEnd, ""
	if r.next < len(r.tokens) {
		t := r.tokens[r.next]
		r.kind, r.word = t.Kind, r.text[t.At:t.At+t.Len]
	}
}

// pass goes on behind some tokens, which become leaves of nothing.
func (r *reader) pass(tokens int) {
	r.at += tokens
	r.look()
}

// more tells whether something is next.
func (r *reader) more() bool { return r.kind != api.TEnd }

// isNext tells whether one of some things is next.
func (r *reader) isNext(some ...string) bool {
	for _, s := range some {
		if s == r.word || s == aName && r.kind == api.TName {
			return true
		}
	}
	return false
}

// take makes what is next, and what stands ahead of it, leaves of a branch.
func (r *reader) take(b *branch) { r.leaves(b, r.next+1) }

// rest makes all that is left leaves of a branch.
func (r *reader) rest(b *branch) { r.leaves(b, len(r.tokens)) }

// leaves makes the tokens up to one leaves of a branch.
func (r *reader) leaves(b *branch, end int) {
	for _, t := range r.tokens[r.at:end] {
		b.add(leaf{t.Kind, t.Len})
	}
	r.at = end
	r.look()
}

// want takes some things, one behind the other; each one that is not next is missing.
func (r *reader) want(b *branch, some ...string) {
	for _, s := range some {
		if r.isNext(s) {
			r.take(b)
		} else {
			b.add(missing(s))
		}
	}
}
