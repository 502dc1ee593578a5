package base

import (
	"cmp"
	"slices"

	"amanuensis/api"
	"amanuensis/scope"
)

// Notes tells what is wrong in a file.
func (b *Base) Notes(file int) ([]api.Note, error) {
	if !b.has(file) {
		return nil, api.ErrRange
	}
	notes := slices.Concat(b.trees[file].Notes(), b.wrongNames(file), b.withoutType(file))
	slices.SortFunc(notes, byPlace)
	return notes, nil
}

// wrongNames tells the names of a file with which something is wrong.
func (b *Base) wrongNames(file int) []api.Note {
	var all []api.Note
	text := b.trees[file].Text()
	for _, n := range b.named() {
		if n.File == file && n.Err != api.OK {
			all = append(all, api.Note{At: n.At, To: n.At + len(scope.Text(text, n.At)), Err: n.Err})
		}
	}
	return all
}

// withoutType tells the defs of a file that have no type.
func (b *Base) withoutType(file int) []api.Note {
	var all []api.Note
	for _, d := range b.ask().Defs {
		if d.File == file && !d.Found.Typed() {
			all = append(all, api.Note{At: d.Name.At, To: d.Name.At + len(d.Name.Text), Err: api.ErrType})
		}
	}
	return all
}

// byPlace holds notes against each other.
func byPlace(a, b api.Note) int {
	return cmp.Or(cmp.Compare(a.At, b.At), cmp.Compare(a.To, b.To), cmp.Compare(a.Err, b.Err))
}
