package infer

import (
	"amanuensis/api"
	"amanuensis/syntax"
	"amanuensis/tree"
)

// place is where something is named: in which file, and behind how many bytes.
type place struct{ file, at int }

// workspace is what is known of all files.
type workspace struct {
	stands map[place]place // what each name in an expression stands for; what stands for nothing is not there
	defs   []*def          // file by file, from the left
	named  map[place]int   // which def is named where
}

// def is an NDef that has a name, and what becomes known of it.
type def struct {
	*syntax.Def
	file  int
	leads []int  // to which defs the names in its expression lead
	holes []hole // from the left
	whole *shape // its type; nil, if it has none
	text  string
}

// hole is a `?` in a def.
type hole struct {
	at   int
	text string
}

// read finds the defs of all files, and where they lead to.
func read(files []api.File, names []api.Use) *workspace {
	w := &workspace{stands: map[place]place{}, named: map[place]int{}}
	for _, n := range names {
		if n.As == api.UVar && n.To >= 0 {
			w.stands[place{n.File, n.At}] = place{n.ToFile, n.To}
		}
	}
	for i, f := range files {
		w.readFile(i, f.Text)
	}
	for _, d := range w.defs {
		w.look(d, d.Body)
	}
	return w
}

func (w *workspace) readFile(file int, text string) {
	for _, item := range syntax.Read(tree.New(text)) {
		d, ok := item.(*syntax.Def)
		if ok && !d.Name.Missing() {
			w.named[place{file, d.Name.At}] = len(w.defs)
			w.defs = append(w.defs, &def{Def: d, file: file})
		}
	}
}

// look finds the holes of an expression of a def, and the defs to which its names lead.
func (w *workspace) look(d *def, e syntax.Expression) {
	switch e := e.(type) {
	case *syntax.Hole:
		d.holes = append(d.holes, hole{at: e.At})
	case *syntax.Var:
		to, ok := w.stands[place{d.file, e.Name.At}]
		if other, isDef := w.named[to]; ok && isDef {
			d.leads = append(d.leads, other)
		}
	}
	for _, part := range e.Parts() {
		w.look(d, part)
	}
}
