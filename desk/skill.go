package desk

import (
	"slices"

	"amanuensis/api"
)

// skill is something that a desk can do when it is asked.
type skill struct {
	called         string
	at, name, fuel bool // what it asks for, beside a file
	do             work
}

// work answers a question about a file of a workspace.
type work func(w *workspace, file int, q question) (api.Json, error)

// question is what a request asks with.
type question struct {
	file, name string
	at, fuel   int
}

// names has what the skills are called, in their order; it is filled in by init.
var names [10]string

func init() { names = called() }

// Names gives the methods that a desk can be asked for, in the chapter's order.
func Names() [10]string { return names }

// called works out what names has; all that a desk answers goes by this, and not by the variable, so that it hangs on nothing but what has come.
func called() [10]string {
	return [10]string{"notes", "types", "find", "uses", "place", "rename", "complete", "layout", "colours", "eval"}
}

// skills gives all that a desk can do.
func skills() []skill {
	all := []skill{
		{do: (*workspace).notes},
		{do: (*workspace).types},
		{do: (*workspace).find, at: true},
		{do: (*workspace).uses, at: true},
		{do: (*workspace).place, at: true},
		{do: (*workspace).rename, at: true, name: true},
		{do: (*workspace).complete, at: true},
		{do: (*workspace).layout},
		{do: (*workspace).colours},
		{do: (*workspace).eval, name: true, fuel: true},
	}
	for i, name := range called() {
		all[i].called = name
	}
	return all
}

// requestOf gives the request that a message is, which came at a moment.
// What is wrong with it by itself is found at once, so that nothing else is to be kept of it.
func requestOf(m message, came int) *request {
	all := skills()
	k := slices.IndexFunc(all, func(s skill) bool { return s.called == m.method })
	if k < 0 {
		return &request{id: m.id, wrong: api.ErrName}
	}
	q := all[k].question(&m.params)
	if m.params.lacking {
		return &request{id: m.id, wrong: api.ErrSyntax}
	}
	return &request{id: m.id, came: came, do: all[k].do, question: q}
}

// question takes what the skill asks for.
func (s skill) question(p *params) question {
	q := question{file: p.text("file")}
	if s.at {
		q.at = p.number("at")
	}
	if s.name {
		q.name = p.text("name")
	}
	if s.fuel {
		q.fuel = p.number("fuel")
	}
	return q
}
