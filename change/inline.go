package change

import (
	"amanuensis/api"
	"amanuensis/syntax"
)

// letAt gives the `let` whose name is at a place (B3).
func (w *workspace) letAt(file, at int) (*syntax.Let, bool) {
	one, ok := w.nameAt(file, at)
	if !ok || one.As != api.ULet {
		return nil, false
	}
	// the name is the `let`'s own token: so none of its parts has it
	_, way := w.way(file, one.At, one.At+1)
	l, ok := way[len(way)-1].(*syntax.Let)
	return l, ok
}

// inlineFault tells why a `let` cannot be undone.
func (w *workspace) inlineFault(file int, l *syntax.Let) error {
	if !w.isPlain(file, l.Value) {
		return api.ErrType
	}
	if _, ok := l.Body.(*syntax.Missing); ok || !w.isWhole(file, l.Value) {
		return api.ErrHole
	}
	taken := map[string]int{}
	for _, n := range w.free(file, l.Value) {
		taken[w.textAt(n.File, n.At)]++
	}
	if w.isCaught(place{file, l.Name.At}, taken, l.Body, false) {
		return api.ErrClash
	}
	return nil
}

// isPlain tells whether an expression comes to its value without a step, and wherever it stands to the same one.
func (w *workspace) isPlain(file int, e syntax.Expression) bool {
	switch e := e.(type) {
	case *syntax.Literal, *syntax.Fun:
		return true
	case *syntax.Group:
		return w.isPlain(file, e.Inner)
	case *syntax.Var:
		return w.isValue(w.named(file, e.Name.At))
	}
	return false
}

// isValue tells whether a name is that of a parameter, a let, or a def with an NParams.
func (w *workspace) isValue(n api.Use) bool {
	if n.To < 0 {
		return false
	}
	d := w.def(n.ToFile, n.To)
	return d == nil || d.Params != nil
}

// place is where something is named: in which file, and behind how many bytes.
type place struct{ file, at int }

// stands tells for what a name stands.
func stands(n api.Use) place { return place{n.ToFile, n.To} }

// isCaught tells whether in an expression something stands for a `let` within an NParams or a `let` that names one of the names that are taken there; caught: whether the expression itself stands in such a one.
func (w *workspace) isCaught(let place, taken map[string]int, e syntax.Expression, caught bool) bool {
	switch e := e.(type) {
	case *syntax.Var:
		return caught && stands(w.named(let.file, e.Name.At)) == let
	case *syntax.Let:
		_, own := taken[e.Name.Text]
		return w.isCaught(let, taken, e.Value, caught) || w.isCaught(let, taken, e.Body, caught || own)
	case *syntax.Fun:
		return w.isCaught(let, taken, e.Body, caught || hasOne(e.Params, taken))
	}
	for _, p := range e.Parts() {
		if w.isCaught(let, taken, p, caught) {
			return true
		}
	}
	return false
}

// hasOne tells whether an NParams has one of some names.
func hasOne(p *syntax.Params, some map[string]int) bool {
	for _, n := range p.Names {
		if _, ok := some[n.Text]; ok {
			return true
		}
	}
	return false
}

// inlined makes a `let` its second expression, in which the first one's text stands in the place of its name.
func (w *workspace) inlined(file int, l *syntax.Let) []api.Span {
	value, body := l.Value.Place(), l.Body.Place()
	text := "(" + w.files[file].Text[value.From:value.To] + ")"
	all := []api.Span{{From: l.From, To: body.From}}
	for _, n := range w.namesIn(file, l.Body) {
		if stands(n) == (place{file, l.Name.At}) {
			all = append(all, api.Span{From: n.At, To: n.At + len(l.Name.Text), Text: text})
		}
	}
	return all
}
