package syntax

import "slices"

// Way goes from the expression of a def inwards, to the parts in which a piece stands whole: it gives all of them, from the outermost on.
// The piece has at least one byte: so none of them is missing.
func (d *Def) Way(from, to int) []Expression {
	var way []Expression
	for some := []Expression{d.Body}; ; {
		i := slices.IndexFunc(some, func(e Expression) bool {
			x := e.Place()
			return x.From <= from && to <= x.To
		})
		if i < 0 {
			return way
		}
		way = append(way, some[i])
		some = some[i].Parts()
	}
}

// Around gives the names of each NParams and `let` around the last expression of a way in the def (N3), from the outermost on; what is missing is none.
func (d *Def) Around(way []Expression) []Name {
	var all []Name
	if d.Params != nil {
		all = append(all, d.Params.Names...)
	}
	for i, e := range way[:len(way)-1] {
		if l, ok := e.(*Let); ok && l.Body == way[i+1] {
			all = append(all, l.Name)
		}
		if f, ok := e.(*Fun); ok {
			all = append(all, f.Params.Names...)
		}
	}
	return slices.DeleteFunc(all, Name.Missing)
}

// At gives the name that begins at a place; nil, if none does.
func (p *Params) At(at int) *Name {
	i := slices.IndexFunc(p.Names, func(n Name) bool { return !n.Missing() && n.At == at })
	if i < 0 {
		return nil
	}
	return &p.Names[i]
}
