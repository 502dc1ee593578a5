package infer

import (
	"amanuensis/api"
	"amanuensis/syntax"
)

// FindAll finds the types of all defs.
func (w *Workspace) FindAll() {
	for _, group := range w.Groups() {
		w.Keep(group, w.Find(group))
	}
}

// Find finds the types of a group: what there is of each of its defs. What the defs are to which it leads has to be kept ahead of that.
func (w *Workspace) Find(group []int) []Found {
	all := make([]Found, len(group))
	f := w.finder()
	if !f.holds(group) {
		return all
	}
	holes := f.holes
	for i, n := range group {
		d := w.Defs[n]
		all[i] = foundOf(f.known[place{d.File, d.Name.At}].shape, holes[:len(d.holes)])
		holes = holes[len(d.holes):]
	}
	return all
}

// Typed tells whether a group has types, without telling which. What the defs are to which it leads has to be kept ahead of that.
func (w *Workspace) Typed(group []int) bool { return w.finder().holds(group) }

// foundOf gives what there is of a def that has a type.
func foundOf(whole *shape, holes []*shape) Found {
	f := Found{Text: text(whole), whole: whole}
	for _, h := range holes {
		f.holes = append(f.holes, text(h))
	}
	return f
}

// Keep says what was found of a group, now or when its defs, and those to which it leads, were the same.
func (w *Workspace) Keep(group []int, found []Found) {
	for i, n := range group {
		w.Defs[n].Found = found[i]
	}
}

// finder finds the types of one group.
type finder struct {
	*Workspace
	known map[place]bound // what is named so far: defs of the group, parameters, lets
	level int             // in the values of how many lets it is
	file  int             // where the def stands that it is in
	all   []*shape        // of all expressions so far
	holes []*shape        // of all holes so far
}

func (w *Workspace) finder() *finder { return &finder{Workspace: w, known: map[place]bound{}} }

// bound is the type of what is named, and in the values of how many lets that stands.
// The variables that belong to more lets belong to nothing around, and are new each time.
type bound struct {
	shape *shape
	level int
}

// holds tells whether a group has types; then known has them.
// Types that do not go together, and those that are too great, end what is done here by a panic.
func (f *finder) holds(group []int) (ok bool) {
	defer func() {
		if r := recover(); r != nil && r != any(api.ErrType) {
			panic(r)
		}
	}()
	for _, i := range group {
		f.begin(f.Defs[i])
	}
	for _, i := range group {
		f.def(f.Defs[i])
	}
	for _, t := range f.all {
		weigh(t)
	}
	return true
}

// begin gives a def a type of which nothing is known yet.
func (f *finder) begin(d *Def) {
	f.known[place{d.File, d.Name.At}] = bound{f.open(), 0}
}

func (f *finder) def(d *Def) {
	f.file = d.File
	own := f.known[place{d.File, d.Name.At}].shape
	if d.Params == nil {
		unite(own, f.expression(d.Body))
	} else {
		unite(own, f.fun(d.Params, d.Body))
	}
}

// fun gives the type of a function of these names.
func (f *finder) fun(p *syntax.Params, body syntax.Expression) *shape {
	var parts []*shape
	for _, name := range p.Names {
		t := f.open()
		parts = append(parts, t)
		f.bind(name, t)
	}
	return f.make(function, append(parts, f.expression(body))...)
}

// bind says what a name stands for from here on.
// Of two that are the same nobody asks for the second one; and nobody for one that is missing, which has no place.
func (f *finder) bind(name syntax.Name, t *shape) {
	if !name.Missing() {
		f.known[place{f.file, name.At}] = bound{t, f.level}
	}
}

// open gives a variable that belongs to where the finder is.
func (f *finder) open() *shape { return f.make(open) }

// make gives a type.
func (f *finder) make(kind int, parts ...*shape) *shape {
	return &shape{kind: kind, parts: parts, level: f.level}
}
