package infer

import (
	"amanuensis/api"
	"amanuensis/syntax"
)

// find finds the types of a group, if it has types; those of the defs to which it leads have been found.
func (w *workspace) find(group []int) {
	f := &finder{workspace: w, known: map[place]bound{}}
	if !f.holds(group) {
		return
	}
	holes := f.holes
	for _, i := range group {
		d := w.defs[i]
		d.whole = f.known[place{d.file, d.Name.At}].shape
		d.text = text(d.whole)
		for j := range d.holes {
			d.holes[j].text = text(holes[j])
		}
		holes = holes[len(d.holes):]
	}
}

// finder finds the types of one group.
type finder struct {
	*workspace
	known map[place]bound // what is named so far: defs of the group, parameters, lets
	level int             // in the values of how many lets it is
	file  int             // where the def stands that it is in
	all   []*shape        // of all expressions so far
	holes []*shape        // of all holes so far
}

// bound is the type of what is named, and in the values of how many lets that stands.
// The variables that belong to more lets belong to nothing around, and are new each time.
type bound struct {
	shape *shape
	level int
}

// holds tells whether a group has types; then known has them.
// Types that do not go together, and those that are too great, end what is done here by a panic.
func (f *finder) holds(group []int) (ok bool) {
	defer func() {
		if r := recover(); r != nil && r != any(api.ErrType) {
			panic(r)
		}
	}()
	for _, i := range group {
		f.name(f.defs[i])
	}
	for _, i := range group {
		f.def(f.defs[i])
	}
	for _, t := range f.all {
		weigh(t)
	}
	return true
}

// name gives a def a type of which nothing is known yet.
func (f *finder) name(d *def) {
	f.known[place{d.file, d.Name.At}] = bound{f.open(), 0}
}

func (f *finder) def(d *def) {
	f.file = d.file
	own := f.known[place{d.file, d.Name.At}].shape
	if d.Params == nil {
		unite(own, f.expression(d.Body))
	} else {
		unite(own, f.fun(d.Params, d.Body))
	}
}

// fun gives the type of a function of these names.
func (f *finder) fun(p *syntax.Params, body syntax.Expression) *shape {
	var parts []*shape
	for _, name := range p.Names {
		t := f.open()
		parts = append(parts, t)
		f.bind(name, t)
	}
	return f.make(function, append(parts, f.expression(body))...)
}

// bind says what a name stands for from here on.
// Of two that are the same nobody asks for the second one; and nobody for one that is missing, which has no place.
func (f *finder) bind(name syntax.Name, t *shape) {
	if !name.Missing() {
		f.known[place{f.file, name.At}] = bound{t, f.level}
	}
}

// open gives a variable that belongs to where the finder is.
func (f *finder) open() *shape { return f.make(open) }

// make gives a type.
func (f *finder) make(kind int, parts ...*shape) *shape {
	return &shape{kind: kind, parts: parts, level: f.level}
}
