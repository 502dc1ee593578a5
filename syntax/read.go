package syntax

import (
	"amanuensis/api"
	"amanuensis/tree"
)

// Files reads the files of a workspace.
func Files(files []api.File) []File {
	var all []File
	for _, f := range files {
		all = append(all, File{f.Name, Read(tree.New(f.Text))})
	}
	return all
}

// Read gives the items of a tree, from the left; an NJunk is none.
func Read(t *tree.Tree) []Item {
	in := row{&passed{}, t.Root().Kids}
	var items []Item
	for in.more() {
		switch in.kids[0].Kind {
		case api.NUse:
			items = append(items, in.use())
		case api.NDef:
			items = append(items, in.def())
		default:
			in.junk()
		}
	}
	return items
}

// row is what is left of the kids of a node.
type row struct {
	*passed
	kids []api.Node
}

// passed is what stands ahead of what is left.
// A tree does not say where its leaves stand: so all rows of it count together.
type passed struct {
	at     int   // how many bytes
	begins []int // where each token begins that is no space and no remark
	end    int   // where the last of these ends
	gaps   int   // how much is missing, and how many `?` stand there
}

// more passes spaces and remarks, and tells whether something is left.
func (in *row) more() bool {
	for len(in.kids) > 0 && isQuiet(in.kids[0]) {
		in.leave()
	}
	return len(in.kids) > 0
}

// leave goes on behind the first kid, of which nothing is looked at but its own text.
func (in *row) leave() api.Node {
	kid := in.kids[0]
	in.kids = in.kids[1:]
	if kid.Kind == api.NMissing || kid.Kind == api.NHole {
		in.gaps++
	}
	if kid.Kind == api.NLeaf {
		in.count(kid)
	}
	return kid
}

// count counts a token.
func (p *passed) count(token api.Node) {
	begin := p.at
	p.at += len(token.Text)
	if !isQuiet(token) {
		p.begins = append(p.begins, begin)
		p.end = p.at
	}
}

// since tells where what has been passed stands since so many tokens, and gaps, had been.
func (p *passed) since(tokens, gaps int) Extent {
	if len(p.begins) == tokens {
		return Extent{Gaps: p.gaps > gaps}
	}
	return Extent{p.begins[tokens], p.end, p.gaps > gaps}
}

// pass goes on behind a token, or what is missing, and gives what it is.
func (in *row) pass() api.Node {
	in.more()
	return in.leave()
}

// enter goes on with the kids of the first kid, which is a node.
func (in *row) enter() row { return row{in.passed, in.leave().Kids} }

// has passes a word, if it is there.
func (in *row) has(word string) bool {
	if !in.more() || in.kids[0].Kind != api.NLeaf || in.kids[0].Text != word {
		return false
	}
	in.leave()
	return true
}

// name passes a name, which may be missing.
func (in *row) name() Name {
	in.more()
	at := in.at
	if n := in.leave(); n.Kind == api.NLeaf {
		return Name{n.Text, at}
	}
	return Name{}
}

func (in *row) junk() {
	for kids := in.enter(); kids.more(); {
		kids.leave()
	}
}

func (in *row) use() *Use {
	kids := in.enter()
	u := &Use{Pub: kids.has("pub")}
	kids.pass() // use
	u.Module = kids.name()
	kids.pass() // .
	u.Item = kids.name()
	if u.As = kids.has("as"); u.As {
		u.Alias = kids.name()
	}
	kids.pass() // ;
	return u
}

func (in *row) def() *Def {
	kids := in.enter()
	kids.more()
	d := &Def{From: in.at}
	d.Pub = kids.has("pub")
	kids.pass() // def
	d.Name = kids.name()
	if kids.more() && kids.kids[0].Kind == api.NParams {
		d.Params = kids.params()
	}
	kids.pass() // =
	d.Body = kids.expression()
	kids.pass() // ;
	d.To = in.at
	return d
}

func (in *row) params() *Params {
	p := &Params{}
	for kids := in.enter(); kids.more(); {
		if isName(kids.kids[0]) {
			p.Names = append(p.Names, kids.name())
		} else {
			kids.leave()
		}
	}
	return p
}

func isQuiet(n api.Node) bool {
	return n.Kind == api.NLeaf && (n.Tok == api.TSpace || n.Tok == api.TRemark)
}

// isName tells whether a node is a name, or stands where one should.
func isName(n api.Node) bool {
	return n.Kind == api.NLeaf && n.Tok == api.TName || n.Kind == api.NMissing && n.Text == "name"
}

// isExpression tells whether a node is an expression, or stands where one should.
func isExpression(n api.Node) bool {
	return n.Kind != api.NLeaf && (n.Kind != api.NMissing || n.Text == "expression")
}
