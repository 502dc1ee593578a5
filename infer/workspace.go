package infer

import (
	"amanuensis/api"
	"amanuensis/syntax"
)

// place is where something is named: in which file, and behind how many bytes.
type place struct{ file, at int }

// Workspace is what is known of the defs of all files.
type Workspace struct {
	Defs   []*Def          // file by file, from the left
	stands map[place]place // what each name in an expression stands for; what stands for nothing is not there
	named  map[place]int   // which def is named where
}

// Def is an NDef that has a name, and what is known of it.
type Def struct {
	*syntax.Def
	File  int
	Found Found
	leads []int // to which defs the names in its expression lead
	holes []int // where each `?` in it stands, from the left
}

// Found is what was found of a def; of one that has no type nothing is.
type Found struct {
	Text  string // its type
	whole *shape
	holes []string // the types of each `?` in it
}

// Typed tells whether the def has a type.
func (f Found) Typed() bool { return f.whole != nil }

// hole gives the type of a `?`.
func (f Found) hole(i int) string {
	if !f.Typed() {
		return ""
	}
	return f.holes[i]
}

// Read finds the defs of all files, and where they lead to, by what their names stand for.
func Read(files []syntax.File, names []api.Use) *Workspace {
	w := &Workspace{stands: map[place]place{}, named: map[place]int{}}
	w.stand(names)
	for i, f := range files {
		w.name(i, f.Items)
	}
	for _, d := range w.Defs {
		w.look(d, d.Body)
	}
	return w
}

// stand says what names in expressions stand for.
func (w *Workspace) stand(names []api.Use) {
	for _, n := range names {
		if n.As != api.UVar {
			continue
		}
		if n.To >= 0 {
			w.stands[place{n.File, n.At}] = place{n.ToFile, n.To}
		} else {
			delete(w.stands, place{n.File, n.At})
		}
	}
}

// Again says what the names in the expression of a def stand for now.
func (w *Workspace) Again(d int, names []api.Use) {
	w.stand(names)
	def := w.Defs[d]
	def.leads, def.holes = nil, nil
	w.look(def, def.Body)
}

// name finds the defs of a file.
func (w *Workspace) name(file int, items []syntax.Item) {
	for _, item := range items {
		d, ok := item.(*syntax.Def)
		if ok && !d.Name.Missing() {
			w.named[place{file, d.Name.At}] = len(w.Defs)
			w.Defs = append(w.Defs, &Def{Def: d, File: file})
		}
	}
}

// Named tells which def is named somewhere.
func (w *Workspace) Named(file, at int) (int, bool) {
	d, ok := w.named[place{file, at}]
	return d, ok
}

// look finds the holes of an expression of a def, and the defs to which its names lead.
func (w *Workspace) look(d *Def, e syntax.Expression) {
	switch e := e.(type) {
	case *syntax.Hole:
		d.holes = append(d.holes, e.From)
	case *syntax.Var:
		to, ok := w.stands[place{d.File, e.Name.At}]
		if other, isDef := w.named[to]; ok && isDef {
			d.leads = append(d.leads, other)
		}
	}
	for _, part := range e.Parts() {
		w.look(d, part)
	}
}
