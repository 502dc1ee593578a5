package edit

import (
	"strings"

	"amanuensis/api"
)

// writer makes the plain edit that does what steps do.
type writer struct {
	spans []api.Span
	at    int // what stands ahead of here in the edited text has been gone through
	open  bool
	from  int             // where the span that is open begins
	text  strings.Builder // what it puts in
}

// add does a step.
func (w *writer) add(s step) {
	if s.count == 0 {
		return
	}
	switch s.kind {
	case stay:
		w.end()
		w.at += s.count
	case put:
		if w.at != w.from {
			w.end()
		}
		w.begin()
		w.text.WriteString(s.text)
	case drop:
		w.begin()
		w.at += s.count
	}
}

// begin opens a span, if none is open.
func (w *writer) begin() {
	if !w.open {
		w.open = true
		w.from = w.at
	}
}

// end closes the span that is open, if one is.
func (w *writer) end() {
	if w.open {
		w.spans = append(w.spans, api.Span{From: w.from, To: w.at, Text: w.text.String()})
		w.text.Reset()
		w.open = false
	}
}

// edit gives what has been made.
func (w *writer) edit() []api.Span {
	w.end()
	return w.spans
}

// plainOf makes an edit plain.
func plainOf(e []api.Span) []api.Span {
	var w writer
	next := stepsOf(e)
	for s := next(); s != (step{}); s = next() {
		w.add(s)
	}
	return w.edit()
}
