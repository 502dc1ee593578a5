package desk

import (
	"fmt"
	"slices"
	"strings"
	"testing"

	"amanuensis/api"
	"amanuensis/base"
	"amanuensis/change"
	"amanuensis/colour"
	"amanuensis/edit"
	"amanuensis/lay"
	"amanuensis/offer"
	"amanuensis/plain"
	"amanuensis/rope"
	"amanuensis/value"
	"amanuensis/wire"
)

// slowDesk is a desk as the chapter tells it, without care for time: it keeps all that has come, and goes through all of it for each answer.
type slowDesk struct {
	log  []api.Json
	done int            // how many requests have been worked
	seen map[string]int // how often each method has been answered so
}

// slowFile is a file, and which message touched it last.
type slowFile struct {
	api.File
	version, touched int
}

// inside gives what stands in a map, and in a map in that; of another kind, or missing: false.
func inside(j api.Json, kind int, path ...string) (api.Json, bool) {
	for _, key := range path {
		k := slices.Index(j.Keys, key)
		if j.Kind != api.JMap || k < 0 {
			return api.Json{}, false
		}
		j = j.Kids[k]
	}
	return j, j.Kind == kind
}

func (s *slowDesk) push(body string) {
	if j, _, err := wire.Parse(body); err == nil {
		s.log = append(s.log, j)
	}
}

// method gives that of a message, and whether it is a request, or a note; neither: it is passed over.
func method(j api.Json) (name string, request, note bool) {
	m, ok := inside(j, api.JText, "method")
	if !ok {
		return "", false, false
	}
	_, request = inside(j, api.JNum, "id")
	return m.Text, request, !slices.Contains(j.Keys, "id")
}

// requests gives which messages are some.
func (s *slowDesk) requests() []int {
	var all []int
	for i, j := range s.log {
		if _, request, _ := method(j); request {
			all = append(all, i)
		}
	}
	return all
}

func (s *slowDesk) waiting() int { return len(s.requests()) - s.done }

// needs gives params of a message by their names; false, if it lacks one.
func needs(j api.Json, names ...string) (map[string]api.Json, bool) {
	all := map[string]api.Json{}
	for _, name := range names {
		kind := api.JNum
		if slices.Contains([]string{"file", "text", "name"}, name) {
			kind = api.JText
		}
		p, ok := inside(j, kind, "params", name)
		if !ok {
			return nil, false
		}
		all[name] = p
	}
	return all, true
}

// files gives those that all notes so far have made.
func (s *slowDesk) files() []slowFile {
	var all []slowFile
	for i, j := range s.log {
		name, _, note := method(j)
		if p, ok := needs(j, "file", "text"); ok && note && name == "open" {
			one := slowFile{File: api.File{Name: p["file"].Text, Text: p["text"].Text}, touched: i}
			if _, err := base.New(append(plainFiles(all), one.File)); err == nil {
				all = append(all, one)
			}
		}
		if p, ok := needs(j, "file", "version", "from", "to", "text"); ok && note && name == "change" {
			for k, f := range all {
				text, err := edit.Apply(f.Text, []api.Span{{From: p["from"].Num, To: p["to"].Num, Text: p["text"].Text}})
				if f.Name == p["file"].Text && p["version"].Num > f.version && err == nil && len(text) <= api.MaxFile {
					all[k] = slowFile{api.File{Name: f.Name, Text: text}, p["version"].Num, i}
				}
			}
		}
	}
	return all
}

func plainFiles(all []slowFile) []api.File {
	var files []api.File
	for _, f := range all {
		files = append(files, f.File)
	}
	return files
}

func (s *slowDesk) work(n int) string {
	out := ""
	for ; n > 0 && s.waiting() > 0; n-- {
		i := s.requests()[s.done]
		s.done++
		id, _ := inside(s.log[i], api.JNum, "id")
		result, err := s.answer(i, id.Num)
		body := fmt.Sprintf(`{"id":%d,"result":%s}`, id.Num, result)
		if err != nil {
			body = fmt.Sprintf(`{"id":%d,"error":"%v"}`, id.Num, plain.Told(err))
		}
		out += fmt.Sprintf("Content-Length: %d\r\n\r\n%s", len(body), body)
		s.count(i, result, err)
	}
	return out
}

// count takes down what an answer was.
func (s *slowDesk) count(i int, result string, err error) {
	name, _, _ := method(s.log[i])
	if _, ok := wants()[name]; !ok {
		name = "other"
	}
	switch {
	case err != nil:
		name += " " + err.Error()
	case result == "null" || result == "[]":
		name += " " + result
	}
	s.seen[name]++
}

// answer gives the one to a message, which is a request.
func (s *slowDesk) answer(i, id int) (string, error) {
	for _, j := range s.log[i:] {
		if p, ok := needs(j, "id"); ok && p["id"].Num == id {
			if name, _, note := method(j); note && name == "cancel" {
				return "", api.ErrCancel
			}
		}
	}
	name, _, _ := method(s.log[i])
	more, ok := wants()[name]
	if !ok {
		return "", api.ErrName
	}
	p, ok := needs(s.log[i], append([]string{"file"}, more...)...)
	if !ok {
		return "", api.ErrSyntax
	}
	all := s.files()
	for k, f := range all {
		if f.Name == p["file"].Text {
			if f.touched > i {
				return "", api.ErrStale
			}
			return slowResult(plainFiles(all), k, name, p)
		}
	}
	return "", api.ErrRange
}

// slowResult gives what a method tells, as the text of a value.
func slowResult(files []api.File, file int, method string, p map[string]api.Json) (string, error) {
	b, err := base.New(files)
	if err != nil {
		return "", err
	}
	at := p["at"].Num
	var all []string
	add := func(form string, parts ...any) { all = append(all, fmt.Sprintf(form, parts...)) }
	switch method {
	case "notes":
		notes, _ := b.Notes(file)
		for _, n := range notes {
			add(`[%d,%d,"%v"]`, n.At, n.To, n.Err)
		}
	case "types":
		for _, y := range b.Types() {
			if y.File == file {
				add("[%d,%s]", y.At, strings.Replace(quote(y.Type), `""`, "null", 1))
			}
		}
	case "find":
		n, ok := b.Where(file, at)
		if !ok || n.ToFile < 0 || n.To < 0 {
			return "null", nil
		}
		add("%s", quote(files[n.ToFile].Name))
		add("%d", n.To)
	case "uses":
		for _, n := range b.Uses(file, at) {
			add("[%s,%d]", quote(files[n.File].Name), n.At)
		}
	case "place":
		place := rope.New(files[file].Text).Place(at)
		add("%d,%d,%d", place.Line, place.Rune, place.Unit)
	case "rename":
		patches, err := change.Rename(files, file, at, p["name"].Text)
		if err != nil {
			return "", err
		}
		for _, one := range patches {
			text, _ := edit.Apply(files[one.File].Text, one.Spans)
			add("[%s,%s]", quote(files[one.File].Name), quote(text))
		}
	case "complete":
		names, err := offer.Complete(files, file, at)
		if err != nil {
			return "", err
		}
		for _, name := range names {
			add("%s", quote(name))
		}
	case "layout":
		text, err := lay.Layout(files[file].Text)
		return quote(text), err
	case "colours":
		colours, _ := colour.Colours(files, file)
		for _, c := range colours {
			add("%d,%d,%d,%d", c.Line, c.Unit, c.Len, c.Kind)
		}
	case "eval":
		text, err := value.Eval(files, file, p["name"].Text, p["fuel"].Num)
		return quote(text), err
	}
	return "[" + strings.Join(all, ",") + "]", nil
}

// Drawn exchanges, answer by answer.
func TestDAgainstTheModel(t *testing.T) {
	d := dice(160)
	seen := map[string]int{}
	for range 3000 {
		desk, slow := New(), &slowDesk{seen: seen}
		all := d.exchange(40)
		for i, s := range all {
			if s.body != "" {
				say(t, desk, s.body)
				slow.push(s.body)
			} else if got, want := desk.Work(s.n), slow.work(s.n); got != want {
				t.Fatalf("%v: work %d:\ngot  %q\nwant %q", all[:i], s.n, got, want)
			}
			if desk.Waiting() != slow.waiting() {
				t.Fatalf("%v: %d wait, want %d", all[:i+1], desk.Waiting(), slow.waiting())
			}
		}
	}
	for kind, least := range map[string]int{"notes": 100, "notes []": 100, "types": 100, "find": 100, "find null": 100, "uses": 100, "uses []": 100, "place": 100, "rename": 50, "rename []": 5,
		"complete": 20, "layout": 100, "colours": 100, "eval": 50, "other ErrName": 100, "rename ErrRange": 50, "rename ErrName": 5, "rename ErrClash": 10, "complete ErrRange": 50, "complete ErrType": 1,
		"layout ErrSyntax": 50, "eval ErrName": 50, "eval ErrRange": 50, "eval ErrLong": 20, "eval ErrStuck": 5, "other ErrCancel": 20} {
		if seen[kind] < least {
			t.Errorf("%s came %d times", kind, seen[kind])
		}
	}
	for method := range wants() {
		for _, e := range []api.Errno{api.ErrCancel, api.ErrSyntax, api.ErrRange, api.ErrStale} {
			if kind := method + " " + e.Error(); seen[kind] < 30 {
				t.Errorf("%s came %d times", kind, seen[kind])
			}
		}
	}
}
