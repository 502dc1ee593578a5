package desk

import (
	"amanuensis/api"
	"amanuensis/plain"
	"amanuensis/wire"
)

// answer gives the frame that goes out for a request.
func (w *workspace) answer(r *request) string {
	key := "result"
	told, err := w.outcome(r)
	if err != nil {
		key, told = "error", text(plain.Told(err).Error())
	}
	j := api.Json{Kind: api.JMap, Keys: []string{"id", key}, Kids: []api.Json{number(r.id), told}}
	body, _ := wire.Print(j) // no number of an answer has too many digits, and no list stands in more than two others
	return wire.Frame(body)
}

// outcome gives what a request comes to, with the files as they are now.
func (w *workspace) outcome(r *request) (api.Json, error) {
	if r.wrong != api.OK {
		return api.Json{}, r.wrong
	}
	file, err := w.since(r.came, r.question.file)
	if err != nil {
		return api.Json{}, err
	}
	return r.do(w, file, r.question)
}

func number(n int) api.Json { return api.Json{Kind: api.JNum, Num: n} }

func text(s string) api.Json { return api.Json{Kind: api.JText, Text: s} }

func list(kids ...api.Json) api.Json { return api.Json{Kind: api.JList, Kids: kids} }
