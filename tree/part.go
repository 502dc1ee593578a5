package tree

import "amanuensis/api"

// part is what trees are made of.
// No part knows where it stands: so it may stand elsewhere in the tree of another text.
type part interface {
	// show gives the node that the part is, and what is left of a text that begins with the part's.
	show(text string) (api.Node, string)
	// tell adds what is wrong in the part, which begins at a place, to the notes, and gives where it ends.
	tell(notes []api.Note, at int) ([]api.Note, int)
}

// leaf is a token: its kind, and how many bytes it has.
type leaf struct{ kind, size int }

func (l leaf) show(text string) (api.Node, string) {
	return api.Node{Kind: api.NLeaf, Tok: l.kind, Text: text[:l.size]}, text[l.size:]
}

func (l leaf) tell(notes []api.Note, at int) ([]api.Note, int) {
	end := at + l.size
	if l.kind == api.TBad {
		notes = append(notes, api.Note{At: at, To: end, Err: api.ErrSyntax})
	}
	return notes, end
}

// missing is what should stand somewhere.
type missing string

func (m missing) show(text string) (api.Node, string) {
	return api.Node{Kind: api.NMissing, Text: string(m)}, text
}

func (m missing) tell(notes []api.Note, at int) ([]api.Note, int) {
	return append(notes, api.Note{At: at, To: at, Err: api.ErrHole}), at
}

// branch is a node with others in it.
type branch struct {
	kind  int
	parts []part
}

func (b *branch) show(text string) (api.Node, string) {
	n := api.Node{Kind: b.kind}
	for _, p := range b.parts {
		var k api.Node
		k, text = p.show(text)
		n.Kids = append(n.Kids, k)
	}
	return n, text
}

func (b *branch) tell(notes []api.Note, at int) ([]api.Note, int) {
	own := len(notes)
	if b.kind == api.NJunk {
		notes = append(notes, api.Note{At: at + b.quiet(), Err: api.ErrSyntax})
	}
	for _, p := range b.parts {
		notes, at = p.tell(notes, at)
	}
	if b.kind == api.NJunk {
		notes[own].To = at // known only now
	}
	return notes, at
}

// quiet tells how many bytes the spaces and remarks have that a branch begins with.
func (b *branch) quiet() int {
	size := 0
	for _, p := range b.parts {
		l, ok := p.(leaf)
		if !ok || !isQuiet(l.kind) {
			break
		}
		size += l.size
	}
	return size
}

// add puts a part behind the others.
func (b *branch) add(p part) { b.parts = append(b.parts, p) }

// grow puts a branch that is empty yet behind the others.
func (b *branch) grow(kind int) *branch {
	n := &branch{kind: kind}
	b.add(n)
	return n
}

// wrap puts a branch where the last part stands, and that part into it.
func (b *branch) wrap(kind int) *branch {
	last := len(b.parts) - 1
	n := &branch{kind: kind, parts: []part{b.parts[last]}}
	b.parts[last] = n
	return n
}

// kid is a branch of the root, with how many tokens it has.
type kid struct {
	*branch
	tokens int
}

// isQuiet tells whether tokens of a kind only stand between others.
func isQuiet(kind int) bool { return kind == api.TSpace || kind == api.TRemark }
