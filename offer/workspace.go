package offer

import (
	"slices"

	"amanuensis/api"
	"amanuensis/infer"
	"amanuensis/scope"
	"amanuensis/syntax"
)

// workspace is files that have no fault, and what is known of them.
type workspace struct {
	items *scope.Workspace
	types *infer.Workspace
}

// read finds all types of files.
func read(files []api.File) *workspace {
	all := syntax.Files(files)
	items := scope.Open(all)
	w := &workspace{items, infer.Read(all, items.Names())}
	w.types.FindAll()
	return w
}

// hole is a `?` of a def.
type hole struct {
	def *infer.Def
	way []syntax.Expression // those in which it stands, from the outermost on, and it
	at  int
}

// hole finds the one that begins at a place. If there is no such file, no def is in it.
func (w *workspace) hole(file, at int) (hole, bool) {
	i := slices.IndexFunc(w.types.Defs, func(d *infer.Def) bool {
		return d.File == file && d.From <= at && at < d.To
	})
	if i < 0 {
		return hole{}, false
	}
	h := hole{w.types.Defs[i], w.types.Defs[i].Way(at, at+1), at}
	if len(h.way) == 0 {
		return hole{}, false
	}
	_, ok := h.way[len(h.way)-1].(*syntax.Hole)
	return h, ok
}

// names gives those that stand for something where a `?` is, ascending, each once.
func (w *workspace) names(h hole) []string {
	all := w.items.Has(h.def.File)
	for _, n := range h.def.Around(h.way) {
		all = append(all, n.Text)
	}
	slices.Sort(all)
	return slices.Compact(all)
}
