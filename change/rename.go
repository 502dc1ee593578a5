package change

import (
	"slices"
	"sort"

	"amanuensis/api"
	"amanuensis/scope"
	"amanuensis/syntax"
)

// renamed makes all names another one that stand for what one stands for, and are what that is named; and tells by how many bytes each grows.
func (w *workspace) renamed(one api.Use, name string) (edits, int) {
	old := w.textAt(one.ToFile, one.To)
	all := w.noEdits()
	for _, n := range w.names {
		if n.ToFile == one.ToFile && n.To == one.To && w.textAt(n.File, n.At) == old {
			all[n.File] = append(all[n.File], api.Span{From: n.At, To: n.At + len(old), Text: name})
		}
	}
	return all, len(name) - len(old)
}

// clashes tells whether by edits that make names others some name comes to stand for something else, or another Err to be told.
func (w *workspace) clashes(all edits, grown int) bool {
	files := slices.Clone(w.files)
	for i, e := range all {
		files[i].Text = w.after(i, e)
	}
	want := slices.Clone(w.names)
	for i, n := range want {
		want[i].At = moved(all[n.File], grown, n.At)
		if n.To >= 0 {
			want[i].To = moved(all[n.ToFile], grown, n.To)
		}
	}
	return !slices.Equal(scope.Names(syntax.Files(files)), want)
}

// moved tells where a place comes by an edit, each span of which grows by so many bytes.
func moved(e []api.Span, grown, at int) int {
	ahead := sort.Search(len(e), func(i int) bool { return e[i].From >= at })
	return at + ahead*grown
}
