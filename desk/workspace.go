package desk

import (
	"amanuensis/api"
	"amanuensis/base"
)

// workspace has files, and knows when each was opened or changed last.
type workspace struct {
	base    *base.Base
	numbers map[string]int // which file has a name
	states  []state        // of each file
	moment  int            // how often a file has been opened or changed
}

// state is what is known of a file beside its text.
type state struct {
	version int
	touched int // the moment at which it was opened or changed last
}

func newWorkspace() *workspace {
	b, _ := base.New(nil) // no files have no fault
	return &workspace{base: b, numbers: map[string]int{}}
}

// open puts one more file behind the others, if that can be done.
func (w *workspace) open(f api.File) {
	if w.base.Add(f) != nil {
		return
	}
	w.moment++
	w.numbers[f.Name] = len(w.states)
	w.states = append(w.states, state{touched: w.moment})
}

// change changes the file of a name, if that can be done, and the version is above the one that it has.
func (w *workspace) change(name string, version int, span api.Span) {
	file, ok := w.numbers[name]
	if !ok || version <= w.states[file].version {
		return
	}
	if w.base.Change(api.Patch{File: file, Spans: []api.Span{span}}) != nil {
		return
	}
	w.moment++
	w.states[file] = state{version: version, touched: w.moment}
}

// since gives the number of the file of a name, if it has not been opened or changed since a moment.
func (w *workspace) since(moment int, name string) (int, error) {
	file, ok := w.numbers[name]
	if !ok {
		return 0, api.ErrRange
	}
	if w.states[file].touched > moment {
		return 0, api.ErrStale
	}
	return file, nil
}

// files gives the files as they are.
func (w *workspace) files() []api.File { return w.base.Files() }
