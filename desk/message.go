package desk

import (
	"slices"

	"amanuensis/api"
	"amanuensis/wire"
)

// message is a request, or a note.
type message struct {
	method string
	params params
	asks   bool // it is a request
	id     int  // of a request
}

// read reads a body; false, if it is to be passed over.
func read(body string) (message, bool) {
	j, _, err := wire.Parse(body)
	if err != nil {
		return message{}, false
	}
	method, ok := valueOf(j, "method")
	if !ok || method.Kind != api.JText {
		return message{}, false
	}
	id, asks := valueOf(j, "id")
	if asks && id.Kind != api.JNum {
		return message{}, false
	}
	given, _ := valueOf(j, "params")
	return message{method: method.Text, params: params{given: given}, asks: asks, id: id.Num}, true
}

// valueOf gives what stands behind a key; false, if nothing does. What is no map has no keys.
func valueOf(j api.Json, key string) (api.Json, bool) {
	k := slices.Index(j.Keys, key)
	if k < 0 {
		return api.Json{}, false
	}
	return j.Kids[k], true
}

// params has what a message gives, and tells whether all was there that it was asked for.
type params struct {
	given   api.Json
	lacking bool
}

func (p *params) text(name string) string { return p.want(name, api.JText).Text }

func (p *params) number(name string) int { return p.want(name, api.JNum).Num }

// want gives a value that has to be of a kind.
func (p *params) want(name string, kind int) api.Json {
	j, ok := valueOf(p.given, name)
	if !ok || j.Kind != kind {
		p.lacking = true
		return api.Json{}
	}
	return j
}
