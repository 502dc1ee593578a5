package lay

import (
	"unicode/utf8"

	"amanuensis/api"
)

// row is what stands in an item.
// The flat text of whatever is in the item is a piece of that of the item: so flat texts are made once, however deep things stand in each other.
type row struct {
	remarks []string
	flat    []byte
	tokens  []extent
	last    string // the text of the last token
}

// extent is where in the flat text a token stands.
type extent struct{ from, to int }

// part is a node, or a token, without spaces and remarks: from which token to ahead of which one.
type part struct {
	kind     int
	from, to int
	parts    []part
}

// read puts what is in a node, or a leaf, behind all that was read; around it stands a node of a kind.
func (r *row) read(n api.Node, around int) part {
	p := part{kind: n.Kind, from: len(r.tokens)}
	if n.Kind == api.NLeaf {
		r.leaf(n, around)
	}
	for _, kid := range n.Kids {
		if k := r.read(kid, n.Kind); k.from < k.to { // a space or a remark is no part
			p.parts = append(p.parts, k)
		}
	}
	p.to = len(r.tokens)
	return p
}

func (r *row) leaf(n api.Node, around int) {
	switch n.Tok {
	case api.TSpace:
	case api.TRemark:
		r.remarks = append(r.remarks, n.Text)
	default:
		r.token(n.Text, around)
	}
}

func (r *row) token(text string, around int) {
	if apart(r.last, text, around) {
		r.flat = append(r.flat, ' ')
	}
	from := len(r.flat)
	r.flat = append(r.flat, text...)
	r.tokens = append(r.tokens, extent{from, len(r.flat)})
	r.last = text
}

// apart tells whether a blank stands between a token, which is empty ahead of the first one, and the next, around which stands a node of a kind.
func apart(last, next string, around int) bool {
	switch last {
	case "", "(", "[", ".":
		return false
	}
	switch next {
	case ")", "]", ",", ";", ".":
		return false
	case "(":
		return around == api.NGroup
	}
	return true
}

// piece gives the flat text of some tokens, which are not none.
func (r *row) piece(from, to int) []byte {
	return r.flat[r.tokens[from].from:r.tokens[to-1].to]
}

// fits tells whether the flat text of a part has at most so many characters.
func (r *row) fits(p part, most int) bool {
	flat := r.piece(p.from, p.to)
	return len(flat) <= most*utf8.UTFMax && utf8.RuneCount(flat) <= most // a long one is not gone through
}
