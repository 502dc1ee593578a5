package change

import (
	"slices"
	"strings"

	"amanuensis/api"
	"amanuensis/lex"
	"amanuensis/syntax"
)

// piece is an expression that becomes a def of its own.
type piece struct {
	file int
	def  *syntax.Def
	way  []syntax.Expression // those in which it stands, from the outermost on, and it
	syntax.Expression
}

// piece gives the expression that stands just from one place to another.
func (w *workspace) piece(file, from, to int) (piece, bool) {
	if from >= to {
		return piece{}, false
	}
	def, way := w.way(file, from, to)
	if len(way) == 0 {
		return piece{}, false
	}
	p := piece{file, def, way, way[len(way)-1]}
	x := p.Place()
	return p, x.From == from && x.To == to
}

// extractFault tells why an expression cannot become a def of a name.
func (w *workspace) extractFault(p piece, name string) error {
	switch {
	case !w.isWhole(p.file, p.Expression):
		return api.ErrHole
	case !lex.Name(name):
		return api.ErrName
	case w.hasItem(p.file, name):
		return api.ErrTwice
	case p.isAround(name):
		return api.ErrClash
	}
	return nil
}

// hasItem tells whether an item of a file has a name (N2).
func (w *workspace) hasItem(file int, name string) bool {
	return slices.ContainsFunc(w.read[file].Items, func(i syntax.Item) bool { return i.Called().Text == name })
}

// isAround tells whether an NParams or a `let` around the expression names something.
func (p piece) isAround(name string) bool {
	return slices.ContainsFunc(p.def.Around(p.way), func(n syntax.Name) bool { return n.Text == name })
}

// outer gives the names of parameters and lets that stand for what is named outside of the expression, each once.
// Those that have the same text stand for the same: for what stands around all of the expression.
func (w *workspace) outer(p piece) []string {
	var all []string
	seen := map[string]int{}
	for _, n := range w.free(p.file, p.Expression) {
		name := w.textAt(n.File, n.At)
		if _, ok := seen[name]; !ok && w.named(n.ToFile, n.To).As != api.UDef {
			seen[name] = len(all)
			all = append(all, name)
		}
	}
	return all
}

// extracted makes the expression a def ahead of its own, which is called in its place.
func (w *workspace) extracted(p piece, name string) []api.Span {
	head := name
	if outer := w.outer(p); len(outer) > 0 {
		head += "(" + strings.Join(outer, ", ") + ")"
	}
	x := p.Place()
	text := w.files[p.file].Text[x.From:x.To]
	return []api.Span{
		{From: p.def.From, To: p.def.From, Text: "def " + head + " = " + text + ";\n"},
		{From: x.From, To: x.To, Text: " " + head + " "},
	}
}
