package scope

import (
	"amanuensis/api"
	"amanuensis/syntax"
)

// place is where something is named: in which file, and behind how many bytes.
type place struct{ file, at int }

// nowhere is the place of what stands for nothing.
func nowhere() place { return place{-1, -1} }

// answer is what the UItem of an NUse stands for, and what is wrong with it.
type answer struct {
	state int
	to    place
	err   api.Errno
}

// States of an answer.
const (
	unasked = iota
	asked   // it is still looked for: who comes by has gone in a ring
	known
)

// wrong is the answer where something is wrong.
func wrong(err api.Errno) answer { return answer{known, nowhere(), err} }

// item tells what an item of a file stands for.
func (w *Workspace) item(file, item int) answer {
	it := w.files[file].items[item]
	if use, ok := it.(*syntax.Use); ok {
		return w.used(file, item, use)
	}
	return answer{known, place{file, it.Called().At}, api.OK}
}

// used tells what the UItem of an NUse stands for.
// It is looked for once: a row of uses may be long, and each of them leads through those behind it.
func (w *Workspace) used(file, item int, use *syntax.Use) answer {
	found := &w.files[file].found[item]
	if found.state == asked {
		return wrong(api.ErrRing)
	}
	if found.state == unasked {
		found.state = asked
		*found = w.look(file, use)
	}
	return *found
}

// look goes on from an NUse to the item that it names.
func (w *Workspace) look(file int, use *syntax.Use) answer {
	module, ok := w.modules[use.Module.Text]
	if !ok {
		return wrong(api.ErrName)
	}
	other := w.files[module]
	item, ok := other.named[use.Item.Text]
	if !ok {
		return wrong(api.ErrName)
	}
	if !other.items[item].Shown() && module != file {
		return wrong(api.ErrHidden)
	}
	return w.item(module, item)
}
