package base

import (
	"sort"

	"amanuensis/api"
	"amanuensis/lex"
	"amanuensis/scope"
)

// named gives all names of the files as they are.
func (b *Base) named() []api.Use {
	if b.names == nil {
		b.names = scope.Names(b.files)
	}
	return b.names
}

// upTo gives the names that begin at a place, or ahead of it.
func upTo(names []api.Use, file, at int) []api.Use {
	return names[:sort.Search(len(names), func(i int) bool {
		n := names[i]
		return n.File > file || n.File == file && n.At > at
	})]
}

// within gives the names that begin in a piece of a file.
func within(names []api.Use, file, from, to int) []api.Use {
	ahead := upTo(names, file, from-1)
	return upTo(names, file, to-1)[len(ahead):]
}

// size tells how many bytes a name has.
func (b *Base) size(n api.Use) int { return lex.First(b.trees[n.File].Text()[n.At:]).Len }

// Where gives the name at a place.
func (b *Base) Where(file, at int) (api.Use, bool) {
	some := upTo(b.named(), file, at)
	if len(some) == 0 {
		return api.Use{}, false
	}
	last := some[len(some)-1]
	if last.File != file || last.At+b.size(last) < at {
		return api.Use{}, false
	}
	return last, true
}

// Uses gives all names that stand for the same.
func (b *Base) Uses(file, at int) []api.Use {
	one, ok := b.Where(file, at)
	if !ok || one.To < 0 {
		return nil
	}
	var all []api.Use
	for _, n := range b.named() {
		if n.ToFile == one.ToFile && n.To == one.To {
			all = append(all, n)
		}
	}
	return all
}
