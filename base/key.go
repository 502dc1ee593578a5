package base

import (
	"slices"
	"strconv"

	"amanuensis/api"
	"amanuensis/infer"
	"amanuensis/scope"
	"amanuensis/syntax"
)

// label finds the labels of all defs: the file, the name, and how many defs of this name stand ahead in the file.
// No type as text has a `.`, and no name: so each label is another text, and none is that of a type.
func (a *asking) label(files []syntax.File) {
	ahead := map[string]int{}
	for _, d := range a.defs.Defs {
		name := files[d.File].Name + "." + d.Name.Text
		a.labels = append(a.labels, a.number(name+"."+strconv.Itoa(ahead[name])))
		ahead[name]++
	}
}

// key gives the key of a group; the types of all defs to which it leads are known.
func (a *asking) key(group []int) string {
	var out []byte
	for _, i := range group {
		d := a.defs.Defs[i]
		text := a.texts[d.File][d.From:d.To]
		out = told(out, 'd', a.labels[i], len(text))
		out = append(out, text...)
		for _, n := range scope.Within(a.names, d.File, d.From, d.To) {
			if n.As == api.UVar {
				out = a.target(out, group, d, n)
			}
		}
	}
	return string(out)
}

// target tells behind what is told what a name in a def of a group stands for.
func (a *asking) target(out []byte, group []int, in *infer.Def, n api.Use) []byte {
	if n.To < 0 {
		return told(out, 'n')
	}
	d, ok := a.defs.Named(n.ToFile, n.To)
	if !ok {
		return told(out, 'p', n.To-in.From) // a parameter or a let: it stands in the same item
	}
	if _, ok := slices.BinarySearch(group, d); ok {
		return told(out, 'g', a.labels[d])
	}
	return told(out, 'o', a.labels[d], a.types[d])
}

// told tells numbers behind what is told, each with a blank behind it, so that no two keys that are not the same have one text.
func told(out []byte, kind byte, numbers ...int) []byte {
	out = append(out, kind)
	for _, n := range numbers {
		out = append(strconv.AppendInt(out, int64(n), 10), ' ')
	}
	return out
}
