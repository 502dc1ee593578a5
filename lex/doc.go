package lex

import (
	"slices"
	"sort"

	"amanuensis/api"
)

// reach is how many bytes behind a token may say where it ends: the next character has no more.
const reach = 4

// Doc is a text with its tokens.
type Doc struct {
	text   string
	tokens []api.Token
}

// New looks at a text.
func New(text string) *Doc { return &Doc{text, Tokens(text)} }

// Text gives the text.
func (d *Doc) Text() string { return d.text }

// Tokens gives its tokens.
func (d *Doc) Tokens() []api.Token { return slices.Clone(d.tokens) }

// Ahead tells how many of its tokens, from the first one on, stay if something is replaced from a place on.
func (d *Doc) Ahead(from int) int { return len(endingBy(d.tokens, max(from, 0)-reach)) }

// Replace gives another one, and how many tokens were looked at anew.
func (d *Doc) Replace(s api.Span) (*Doc, int, error) {
	if s.From < 0 || s.From > s.To || s.To > len(d.text) {
		return nil, 0, api.ErrRange
	}
	text := d.text[:s.From] + s.Text + d.text[s.To:]
	grown := len(text) - len(d.text)
	ahead := d.tokens[:d.Ahead(s.From)]
	r := readFrom(text, endOf(ahead))
	anew, behind := r.until(beginningAt(d.tokens, s.To), grown)
	tokens := slices.Concat(ahead, anew, behind)
	for i := len(ahead) + len(anew); i < len(tokens); i++ {
		tokens[i].At += grown
	}
	return &Doc{text, tokens}, len(anew), nil
}

// until reads tokens till one would begin where one of the old ones does, moved by as much as the text has grown, or till the text's end.
// It gives those that it read, and the old ones that stay behind them.
func (r *reader) until(old []api.Token, grown int) (anew, stay []api.Token) {
	for {
		old = beginningAt(old, r.at-grown)
		if r.char == none || len(old) > 0 && old[0].At == r.at-grown {
			return anew, old
		}
		anew = append(anew, r.token())
	}
}

// endingBy gives the tokens that end at a place, or ahead of it.
func endingBy(tokens []api.Token, at int) []api.Token {
	return tokens[:sort.Search(len(tokens), func(i int) bool { return tokens[i].At+tokens[i].Len > at })]
}

// beginningAt gives the tokens that begin at a place, or behind it.
func beginningAt(tokens []api.Token, at int) []api.Token {
	return tokens[sort.Search(len(tokens), func(i int) bool { return tokens[i].At >= at }):]
}

// endOf gives where the last one of a text's first tokens ends.
func endOf(tokens []api.Token) int {
	if len(tokens) == 0 {
		return 0
	}
	last := tokens[len(tokens)-1]
	return last.At + last.Len
}
