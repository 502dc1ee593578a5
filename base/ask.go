package base

import (
	"amanuensis/api"
	"amanuensis/infer"
)

// memory is what is kept of the time when the base was asked last.
type memory struct {
	found   map[string][]infer.Found // of each group, by its key
	numbers map[string]int           // of the texts by which keys tell of defs
	count   int                      // the greatest of all numbers so far
}

// ask finds the types of the files as they are.
// If nothing has been changed since that was done, each group has the key that it had then.
func (b *Base) ask() *infer.Workspace {
	b.looked = 0
	if b.types == nil {
		b.types = infer.Read(b.files, b.named())
		b.look()
	}
	return b.types
}

// look finds the types of each group, unless there was one with its key the last time.
func (b *Base) look() {
	a := b.asking()
	for _, group := range b.types.Groups() {
		key := a.key(group)
		found, ok := b.memory.found[key]
		if !ok {
			found = b.types.Find(group)
			b.looked += len(group)
		}
		b.types.Keep(group, found)
		a.know(group, key, found)
	}
	b.memory = a.now
}

// asking is a time when the base is asked.
type asking struct {
	texts  []string // of the files
	names  []api.Use
	defs   *infer.Workspace
	last   map[string]int // the numbers of the last time
	now    memory
	labels []int // of each def the number of its label
	types  []int // of each def whose type is known the number of that
}

func (b *Base) asking() *asking {
	a := &asking{names: b.named(), defs: b.types, last: b.memory.numbers}
	a.now = memory{map[string][]infer.Found{}, map[string]int{}, b.memory.count}
	for _, t := range b.trees {
		a.texts = append(a.texts, t.Text())
	}
	a.label(b.files)
	a.types = make([]int, len(b.types.Defs))
	return a
}

// know takes down what the types of a group are.
func (a *asking) know(group []int, key string, found []infer.Found) {
	a.now.found[key] = found
	for i, d := range group {
		a.types[d] = a.number(found[i].Text)
	}
}

// number gives a text the number that it had the last time, or else one that none has had.
// So keys of the two times can be held against each other, and need not have texts that may be long and stand in many of them.
func (a *asking) number(text string) int {
	if n, ok := a.now.numbers[text]; ok {
		return n
	}
	n, ok := a.last[text]
	if !ok {
		a.now.count++
		n = a.now.count
	}
	a.now.numbers[text] = n
	return n
}
