package scope

import (
	"amanuensis/api"
	"amanuensis/syntax"
)

// block has the names of an NParams, or of a let: where each of them stands.
// What is missing may be among them: nobody asks for it.
type block struct {
	named map[string]int
	out   *block // the one around it; nil, if there is none
}

// find finds the innermost block that names something.
func (b *block) find(name string) (int, bool) {
	for ; b != nil; b = b.out {
		if at, ok := b.named[name]; ok {
			return at, true
		}
	}
	return 0, false
}

// params tells the names of an NParams, if there is one, and gives the block in which its expression stands.
func (t *teller) params(p *syntax.Params, out *block) *block {
	if p == nil {
		return out
	}
	b := &block{make(map[string]int, len(p.Names)), out}
	for _, name := range p.Names {
		if _, ok := b.named[name.Text]; ok {
			t.own(name, api.UParam, api.ErrTwice)
		} else {
			t.own(name, api.UParam, api.OK)
			b.named[name.Text] = name.At
		}
	}
	return b
}

// expression tells the names in one that stands in a block.
func (t *teller) expression(e syntax.Expression, in *block) {
	if v, ok := e.(*syntax.Var); ok {
		t.variable(v.Name, in)
	} else if l, ok := e.(*syntax.Let); ok {
		t.let(l, in)
	} else if f, ok := e.(*syntax.Fun); ok {
		t.expression(f.Body, t.params(f.Params, in))
	} else {
		for _, p := range e.Parts() {
			t.expression(p, in)
		}
	}
}

func (t *teller) let(l *syntax.Let, in *block) {
	t.own(l.Name, api.ULet, api.OK)
	t.expression(l.Value, in)
	t.expression(l.Body, &block{map[string]int{l.Name.Text: l.Name.At}, in})
}

func (t *teller) variable(name syntax.Name, in *block) {
	if at, ok := in.find(name.Text); ok {
		t.add(name, api.UVar, place{t.file, at}, api.OK)
	} else if item, ok := t.files[t.file].named[name.Text]; ok {
		t.add(name, api.UVar, t.item(t.file, item).to, api.OK)
	} else {
		t.add(name, api.UVar, nowhere(), api.ErrName)
	}
}
