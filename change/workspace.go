package change

import (
	"slices"

	"amanuensis/api"
	"amanuensis/scope"
	"amanuensis/syntax"
)

// workspace is files that have no fault, and what is known of them.
type workspace struct {
	files []api.File
	read  []syntax.File // what their trees say
	names []api.Use
}

// open looks at files, one of which must have this number.
func open(files []api.File, file int) (*workspace, error) {
	if err := scope.Fault(files); err != nil {
		return nil, err
	}
	if file < 0 || file >= len(files) {
		return nil, api.ErrRange
	}
	read := syntax.Files(files)
	return &workspace{files, read, scope.Names(read)}, nil
}

// nameAt gives the name at a place (B3).
func (w *workspace) nameAt(file, at int) (api.Use, bool) {
	return scope.At(w.names, file, w.files[file].Text, at)
}

// named gives the name that begins at a place.
func (w *workspace) named(file, at int) api.Use { return scope.Within(w.names, file, at, at+1)[0] }

// textAt gives the text of the name that begins at a place.
func (w *workspace) textAt(file, at int) string { return scope.Text(w.files[file].Text, at) }

// namesIn gives the names in an expression.
func (w *workspace) namesIn(file int, e syntax.Expression) []api.Use {
	x := e.Place()
	return scope.Within(w.names, file, x.From, x.To)
}

// def gives the one that is named at a place; nil, if none is.
func (w *workspace) def(file, at int) *syntax.Def {
	for _, item := range w.read[file].Items {
		if d, ok := item.(*syntax.Def); ok && !d.Name.Missing() && d.Name.At == at {
			return d
		}
	}
	return nil
}

// way gives the def in which a piece of a file stands, and the expressions in which it stands whole, from the outermost on; none, if it stands in none.
// The piece has at least one byte: so none of them is missing.
func (w *workspace) way(file, from, to int) (*syntax.Def, []syntax.Expression) {
	for _, item := range w.read[file].Items {
		if d, ok := item.(*syntax.Def); ok && d.From <= from && to <= d.To {
			return d, d.Way(from, to)
		}
	}
	return nil, nil
}

// isWhole tells whether in an expression nothing is missing, and neither stands a `?`, nor a name that stands for nothing.
func (w *workspace) isWhole(file int, e syntax.Expression) bool {
	return !e.Place().Gaps && !slices.ContainsFunc(w.namesIn(file, e), func(n api.Use) bool { return n.To < 0 })
}

// free gives the names in an expression that stand for what is named outside of it.
func (w *workspace) free(file int, e syntax.Expression) []api.Use {
	x := e.Place()
	var all []api.Use
	for _, n := range w.namesIn(file, e) {
		if n.ToFile != file || n.To < x.From || n.To >= x.To {
			all = append(all, n)
		}
	}
	return all
}
