package change

import (
	"slices"

	"amanuensis/api"
	"amanuensis/edit"
	"amanuensis/tree"
)

// edits has one of each file, each without a fault.
type edits [][]api.Span

// noEdits has one of each file that does nothing.
func (w *workspace) noEdits() edits { return make(edits, len(w.files)) }

// after gives the text that an edit makes of a file's.
func (w *workspace) after(file int, e []api.Span) string {
	text, _ := edit.Apply(w.files[file].Text, e)
	return text
}

// patches gives those of the files whose text changes.
// How long texts become is told ahead of making them: a short file may say that a great one be made.
func (w *workspace) patches(all edits) ([]api.Patch, error) {
	for i, e := range all {
		if edit.Length(len(w.files[i].Text), e) > api.MaxFile {
			return nil, api.ErrFull
		}
	}
	var out []api.Patch
	for i, e := range all {
		if w.after(i, e) != w.files[i].Text {
			out = append(out, api.Patch{File: i, Spans: e})
		}
	}
	return out, nil
}

// nested gives the patch of a file, in which expressions may then stand in more others than they did.
func (w *workspace) nested(file int, e []api.Span) ([]api.Patch, error) {
	all := w.noEdits()
	all[file] = e
	out, err := w.patches(all)
	if err != nil {
		return nil, err
	}
	if isTooDeep(tree.New(w.after(file, e)).Root(), 0) {
		return nil, api.ErrFull
	}
	return out, nil
}

// isTooDeep tells whether in a node that stands in so many of those that count an expression is missing because it stands in too many.
func isTooDeep(n api.Node, deep int) bool {
	if n.Kind == api.NMissing {
		return n.Text == "expression" && deep > api.MaxNest
	}
	if nests(n.Kind) {
		deep++
	}
	return slices.ContainsFunc(n.Kids, func(k api.Node) bool { return isTooDeep(k, deep) })
}

// nests tells whether nodes of a kind count for MaxNest.
func nests(kind int) bool {
	switch kind {
	case api.NLet, api.NIf, api.NFun, api.NArgs, api.NGroup, api.NList:
		return true
	}
	return false
}
