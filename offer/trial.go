package offer

import (
	"slices"

	"amanuensis/api"
	"amanuensis/syntax"
)

// trial is a workspace in which a name stands in the place of a `?`; what it reads becomes another name from time to time.
// Since trees do not hang on which name it is, the text need not be read for each of them.
type trial struct {
	*workspace
	file int
	def  int          // which one the name stands in
	name *syntax.Name // where it stands
}

// fitting gives those of some names with which the def of a `?` still has a type.
func fitting(files []api.File, h hole, names []string) []string {
	names = slices.DeleteFunc(names, func(name string) bool { return len(files[h.def.File].Text)+len(name)+1 > api.MaxFile })
	if len(names) == 0 {
		return nil
	}
	t := trialOf(files, h, names[0])
	return slices.DeleteFunc(names, func(name string) bool { return !t.fits(name) })
}

// trialOf puts a name in the place of a `?`. What stands ahead of it, as the name of its def does, keeps its place.
func trialOf(files []api.File, h hole, name string) *trial {
	file, at := h.def.File, h.at
	files = slices.Clone(files)
	text := files[file].Text
	files[file].Text = text[:at] + " " + name + " " + text[at+1:]
	t := &trial{workspace: read(files), file: file}
	t.def, _ = t.types.Named(file, h.def.Name.At)
	t.name = nameIn(t.types.Defs[t.def].Def, at+1)
	return t
}

// nameIn gives the name in a def that begins at a place.
// It may be that of an NParams or a `let`: in the place of a `?` a name may come to stand where one was missing.
func nameIn(d *syntax.Def, at int) *syntax.Name {
	way := d.Way(at, at+1)
	if len(way) == 0 {
		return d.Params.At(at)
	}
	switch e := way[len(way)-1].(type) {
	case *syntax.Let:
		return &e.Name
	case *syntax.Fun:
		return e.Params.At(at)
	default:
		return &e.(*syntax.Var).Name
	}
}

// fits tells whether the def has a type with a name.
// What it leads to outside of its group does not lead to it, and so is what it was with another name.
func (t *trial) fits(name string) bool {
	t.name.Text = name
	t.types.Again(t.def, t.items.Inner(t.file, t.types.Defs[t.def].Def))
	return t.types.Typed(t.types.Group(t.def))
}
