package desk

import "amanuensis/api"

// note does what a note says, unless it lacks something.
func (d *Desk) note(m message) {
	p := &m.params
	switch m.method {
	case "open":
		f := api.File{Name: p.text("file"), Text: p.text("text")}
		if !p.lacking {
			d.files.open(f)
		}
	case "change":
		name, version := p.text("file"), p.number("version")
		span := api.Span{From: p.number("from"), To: p.number("to"), Text: p.text("text")}
		if !p.lacking {
			d.files.change(name, version, span)
		}
	case "cancel":
		id := p.number("id")
		if !p.lacking {
			d.queue.cancel(id)
		}
	}
}
