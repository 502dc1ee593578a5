package scope

import (
	"amanuensis/api"
	"amanuensis/syntax"
)

// teller tells the names of a file, from the left.
type teller struct {
	*Workspace
	file  int
	names []api.Use // those that have been told
}

// all tells all names of a file.
func (t *teller) all(file int) {
	t.file = file
	for i, item := range t.files[file].items {
		if use, ok := item.(*syntax.Use); ok {
			t.use(i, use)
		}
		if def, ok := item.(*syntax.Def); ok {
			t.def(i, def)
		}
	}
}

// add tells what a name stands for, unless it is missing.
func (t *teller) add(name syntax.Name, as int, to place, err api.Errno) {
	if !name.Missing() {
		t.names = append(t.names, api.Use{File: t.file, At: name.At, As: as, ToFile: to.file, To: to.at, Err: err})
	}
}

// own tells a name that stands for itself.
func (t *teller) own(name syntax.Name, as int, err api.Errno) {
	t.add(name, as, place{t.file, name.At}, err)
}

func (t *teller) use(item int, use *syntax.Use) {
	t.module(use.Module)
	found := t.used(t.file, item, use)
	twice := t.twice(item)
	if found.err == api.OK && !use.As {
		found.err = twice
	}
	t.add(use.Item, api.UItem, found.to, found.err)
	t.add(use.Alias, api.UAlias, found.to, twice)
}

func (t *teller) module(name syntax.Name) {
	if file, ok := t.modules[name.Text]; ok {
		t.add(name, api.UModule, place{file, -1}, api.OK)
	} else {
		t.add(name, api.UModule, nowhere(), api.ErrName)
	}
}

func (t *teller) def(item int, def *syntax.Def) {
	t.own(def.Name, api.UDef, t.twice(item))
	t.inner(def)
}

// inner tells the names in the NParams and the expression of a def.
func (t *teller) inner(def *syntax.Def) { t.expression(def.Body, t.params(def.Params, nil)) }

// twice is what is wrong with the name of an item.
func (t *teller) twice(item int) api.Errno {
	if t.files[t.file].isTwice(item) {
		return api.ErrTwice
	}
	return api.OK
}
