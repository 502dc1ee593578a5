package value

import (
	"amanuensis/api"
	"amanuensis/syntax"
	"amanuensis/tree"
)

// place is where something is named: in which file, and behind how many bytes.
type place struct{ file, at int }

// program is what all files say.
type program struct {
	stands map[place]place // what each name in an expression stands for; what stands for nothing is not there
	items  [][]syntax.Item // of each file
	defs   map[place]def   // by where their names stand
}

// def is an NDef that has a name, and what it does.
type def struct {
	*syntax.Def
	body *body
}

// body is what is done for the expression of a def, or of a fun.
type body struct {
	names int // how many its NParams has
	steps []step
}

// read finds the defs of all files, and what they do.
func read(files []api.File, names []api.Use) *program {
	p := &program{stands: map[place]place{}, defs: map[place]def{}}
	for _, n := range names {
		if n.As == api.UVar && n.To >= 0 {
			p.stands[place{n.File, n.At}] = place{n.ToFile, n.To}
		}
	}
	for i, f := range files {
		p.items = append(p.items, syntax.Read(tree.New(f.Text)))
		p.name(i)
	}
	for i := range files {
		p.fill(i)
	}
	return p
}

// name gives each def of a file a body that is still empty: defs may lead to those that come later.
func (p *program) name(file int) {
	for _, item := range p.items[file] {
		if d, ok := item.(*syntax.Def); ok && !d.Name.Missing() {
			p.defs[place{file, d.Name.At}] = def{d, &body{}}
		}
	}
}

// fill finds what the defs of a file do.
func (p *program) fill(file int) {
	for _, item := range p.items[file] {
		if d, ok := item.(*syntax.Def); ok && !d.Name.Missing() {
			*p.defs[place{file, d.Name.At}].body = p.body(file, d.Params, d.Body, nil)
		}
	}
}

// asked gives the body of the def that has a name in a file; false, if there is none, or it has an NParams.
func (p *program) asked(file int, name string) (*body, bool) {
	for _, item := range p.items[file] {
		called := item.Called()
		if called.Missing() || called.Text != name {
			continue
		}
		d, ok := item.(*syntax.Def)
		if !ok || d.Params != nil {
			return nil, false
		}
		return p.defs[place{file, called.At}].body, true
	}
	return nil, false
}
