package desk

import (
	"amanuensis/api"
	"amanuensis/change"
	"amanuensis/colour"
	"amanuensis/edit"
	"amanuensis/lay"
	"amanuensis/offer"
	"amanuensis/rope"
	"amanuensis/value"
)

// notes tells what is wrong in a file.
func (w *workspace) notes(file int, _ question) (api.Json, error) {
	notes, err := w.base.Notes(file)
	if err != nil {
		return api.Json{}, err
	}
	all := list()
	for _, n := range notes {
		all.Kids = append(all.Kids, list(number(n.At), number(n.To), text(n.Err.Error())))
	}
	return all, nil
}

// types tells the types of the defs and holes of a file.
func (w *workspace) types(file int, _ question) (api.Json, error) {
	all := list()
	for _, t := range w.base.Types() {
		if t.File == file {
			all.Kids = append(all.Kids, list(number(t.At), typeOf(t)))
		}
	}
	return all, nil
}

// typeOf gives a type; null, if it is none.
func typeOf(t api.Typed) api.Json {
	if t.Type == "" {
		return api.Json{}
	}
	return text(t.Type)
}

// find tells where that is named for which the name at a place stands.
func (w *workspace) find(file int, q question) (api.Json, error) {
	n, ok := w.base.Where(file, q.at)
	if !ok || n.To < 0 {
		return api.Json{}, nil
	}
	return list(text(w.files()[n.ToFile].Name), number(n.To)), nil
}

// uses tells where all names stand that stand for the same.
func (w *workspace) uses(file int, q question) (api.Json, error) {
	all := list()
	files := w.files()
	for _, n := range w.base.Uses(file, q.at) {
		all.Kids = append(all.Kids, list(text(files[n.File].Name), number(n.At)))
	}
	return all, nil
}

// place tells where a byte stands.
func (w *workspace) place(file int, q question) (api.Json, error) {
	p := rope.New(w.files()[file].Text).Place(q.at)
	return list(number(p.Line), number(p.Rune), number(p.Unit)), nil
}

// rename tells what texts become when a name is made another one.
func (w *workspace) rename(file int, q question) (api.Json, error) {
	files := w.files()
	patches, err := change.Rename(files, file, q.at, q.name)
	if err != nil {
		return api.Json{}, err
	}
	all := list()
	for _, p := range patches {
		f := files[p.File]
		after, err := edit.Apply(f.Text, p.Spans)
		if err != nil {
			return api.Json{}, err
		}
		all.Kids = append(all.Kids, list(text(f.Name), text(after)))
	}
	return all, nil
}

// complete tells what could stand in the place of a hole.
func (w *workspace) complete(file int, q question) (api.Json, error) {
	offered, err := offer.Complete(w.files(), file, q.at)
	if err != nil {
		return api.Json{}, err
	}
	all := list()
	for _, name := range offered {
		all.Kids = append(all.Kids, text(name))
	}
	return all, nil
}

// layout tells the layout of a file.
func (w *workspace) layout(file int, _ question) (api.Json, error) {
	laid, err := lay.Layout(w.files()[file].Text)
	if err != nil {
		return api.Json{}, err
	}
	return text(laid), nil
}

// colours tells what the tokens of a file are.
func (w *workspace) colours(file int, _ question) (api.Json, error) {
	colours, err := colour.Colours(w.files(), file)
	if err != nil {
		return api.Json{}, err
	}
	all := list()
	for _, c := range colours {
		all.Kids = append(all.Kids, number(c.Line), number(c.Unit), number(c.Len), number(c.Kind))
	}
	return all, nil
}

// eval tells what a def comes to.
func (w *workspace) eval(file int, q question) (api.Json, error) {
	told, err := value.Eval(w.files(), file, q.name, q.fuel)
	if err != nil {
		return api.Json{}, err
	}
	return text(told), nil
}
