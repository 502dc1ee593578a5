package change

import (
	"slices"

	"amanuensis/api"
	"amanuensis/edit"
	"amanuensis/syntax"
)

// ordering puts the names of a def, and the parts of its calls, in another order.
type ordering struct {
	*workspace
	def   *syntax.Def
	at    place // where it is named
	order []int
}

// ordering begins with the def for which the name at a place (B3) stands.
func (w *workspace) ordering(file, at int, order []int) (*ordering, bool) {
	one, ok := w.nameAt(file, at)
	if !ok || one.To < 0 {
		return nil, false
	}
	d := w.def(one.ToFile, one.To)
	if d == nil || d.Params == nil || !isOrder(order, len(d.Params.Names)) {
		return nil, false
	}
	return &ordering{w, d, stands(one), order}, true
}

// isOrder tells whether an order is the numbers from 0 to ahead of n, each once.
func isOrder(order []int, n int) bool {
	if len(order) != n {
		return false
	}
	seen := make([]bool, n)
	for _, i := range order {
		if i < 0 || i >= n || seen[i] {
			return false
		}
		seen[i] = true
	}
	return true
}

// fault tells why the order cannot be another one.
func (o *ordering) fault() error {
	if slices.ContainsFunc(o.def.Params.Names, syntax.Name.Missing) {
		return api.ErrHole
	}
	seen := map[string]int{}
	for i, n := range o.def.Params.Names {
		if _, ok := seen[n.Text]; ok {
			return api.ErrTwice
		}
		seen[n.Text] = i
	}
	calls := o.calls()
	if len(calls) < o.uses() {
		return api.ErrClash
	}
	if slices.ContainsFunc(calls, lacksPart) {
		return api.ErrHole
	}
	return nil
}

// uses tells how many names in expressions stand for the def.
func (o *ordering) uses() int {
	count := 0
	for _, n := range o.names {
		if n.As == api.UVar && stands(n) == o.at {
			count++
		}
	}
	return count
}

// calls gives the calls of the def, in all files.
func (o *ordering) calls() []*syntax.Call {
	var all []*syntax.Call
	for file, f := range o.read {
		for _, item := range f.Items {
			if d, ok := item.(*syntax.Def); ok {
				all = o.callsIn(file, d.Body, all)
			}
		}
	}
	return all
}

// callsIn adds the calls of the def in an expression.
func (o *ordering) callsIn(file int, e syntax.Expression, all []*syntax.Call) []*syntax.Call {
	if c, ok := o.call(file, e); ok {
		all = append(all, c)
	}
	for _, p := range e.Parts() {
		all = o.callsIn(file, p, all)
	}
	return all
}

// call tells whether an expression is a call of the def, with as many parts as it has names.
func (o *ordering) call(file int, e syntax.Expression) (*syntax.Call, bool) {
	c, ok := e.(*syntax.Call)
	if !ok || len(c.Args) != len(o.order) {
		return nil, false
	}
	v, ok := c.Called.(*syntax.Var)
	return c, ok && stands(o.named(file, v.Name.At)) == o.at
}

// lacksPart tells whether a part of a call is missing.
func lacksPart(c *syntax.Call) bool {
	return slices.ContainsFunc(c.Args, func(e syntax.Expression) bool {
		_, ok := e.(*syntax.Missing)
		return ok
	})
}

// ordered puts everything in order.
func (o *ordering) ordered() edits {
	all := o.noEdits()
	for file, f := range o.read {
		for _, item := range f.Items {
			d, ok := item.(*syntax.Def)
			if !ok {
				continue
			}
			if d == o.def {
				all[file] = append(all[file], o.params()...)
			}
			all[file] = o.parts(file, d.Body, all[file])
		}
	}
	return all
}

// params puts the names in order.
func (o *ordering) params() []api.Span {
	var all []api.Span
	names := o.def.Params.Names
	for i, n := range names {
		all = append(all, api.Span{From: n.At, To: n.At + len(n.Text), Text: names[o.order[i]].Text})
	}
	return all
}

// parts puts the parts of all calls in an expression in order.
func (o *ordering) parts(file int, e syntax.Expression, all []api.Span) []api.Span {
	c, ok := o.call(file, e)
	if !ok {
		for _, p := range e.Parts() {
			all = o.parts(file, p, all)
		}
		return all
	}
	for i, p := range c.Args {
		x := p.Place()
		all = append(all, api.Span{From: x.From, To: x.To, Text: o.text(file, c.Args[o.order[i]])})
	}
	return all
}

// text gives that of an expression, with what is changed within it.
func (o *ordering) text(file int, e syntax.Expression) string {
	x := e.Place()
	inner := o.parts(file, e, nil)
	for i := range inner {
		inner[i].From -= x.From
		inner[i].To -= x.From
	}
	text, _ := edit.Apply(o.files[file].Text[x.From:x.To], inner)
	return text
}
