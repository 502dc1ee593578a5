package tree

import "amanuensis/api"

// Replace gives the tree of another text, and how many kids were read anew.
func (t *Tree) Replace(s api.Span) (*Tree, int, error) {
	doc, looked, err := t.doc.Replace(s)
	if err != nil {
		return nil, 0, err
	}
	ahead := t.doc.Ahead(s.From)
	r, root := readerOf(doc), &branch{kind: api.NFile}
	r.keep(root, t.root.parts, ahead)
	anew := r.until(root, ending(t.root.parts, len(r.tokens)-ahead-looked))
	return &Tree{doc, root}, anew, nil
}

// keep takes over the kids of an old root, from the first one on, as long as all tokens of one, and the token that is next behind it, are among the first tokens, which stay.
// That token counts, since a kid may have ended only because something else was not next.
func (r *reader) keep(root *branch, old []part, ahead int) {
	for _, p := range old {
		k, ok := p.(kid)
		if !ok || r.nextFrom(r.at+k.tokens) >= ahead {
			return
		}
		root.add(k)
		r.pass(k.tokens)
	}
}

// until reads kids till one would begin where one of the old ones does, which all stay then, and tells how many it read.
// What is there is told by how many tokens are left: these are the same ones.
func (r *reader) until(root *branch, old []part) int {
	anew, left := 0, tokensOf(old...)
	for ; r.more(); anew++ {
		mine := len(r.tokens) - r.at
		for left > mine {
			left -= tokensOf(old[0])
			old = old[1:]
		}
		if left == mine { // the first one is no leaf: something is next
			root.parts = append(root.parts, old...)
			return anew
		}
		root.add(r.kid())
	}
	r.rest(root)
	return anew
}

// ending gives the last ones of a root's parts whose tokens are all among the last ones of the text, so many.
func ending(parts []part, tokens int) []part {
	i := len(parts)
	for i > 0 && tokensOf(parts[i-1]) <= tokens {
		i--
		tokens -= tokensOf(parts[i])
	}
	return parts[i:]
}

// tokensOf tells how many tokens some parts of a root have.
func tokensOf(parts ...part) int {
	sum := 0
	for _, p := range parts {
		if k, ok := p.(kid); ok {
			sum += k.tokens
		} else {
			sum++ // a leaf
		}
	}
	return sum
}
