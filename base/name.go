package base

import (
	"amanuensis/api"
	"amanuensis/scope"
)

// named gives all names of the files as they are.
func (b *Base) named() []api.Use {
	if b.names == nil {
		b.names = scope.Names(b.files)
	}
	return b.names
}

// Where gives the name at a place.
func (b *Base) Where(file, at int) (api.Use, bool) {
	if !b.has(file) {
		return api.Use{}, false
	}
	return scope.At(b.named(), file, b.trees[file].Text(), at)
}

// Uses gives all names that stand for the same.
func (b *Base) Uses(file, at int) []api.Use {
	one, ok := b.Where(file, at)
	if !ok || one.To < 0 {
		return nil
	}
	var all []api.Use
	for _, n := range b.named() {
		if n.ToFile == one.ToFile && n.To == one.To {
			all = append(all, n)
		}
	}
	return all
}
