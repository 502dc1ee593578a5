package base

import (
	"fmt"
	"math"
	"slices"
	"strings"
	"testing"

	"amanuensis/api"
	"amanuensis/edit"
	"amanuensis/infer"
	"amanuensis/lex"
	"amanuensis/scope"
	"amanuensis/tree"
)

// slow is a base as the chapter tells it, without care for time: it keeps the files, and which keys there were when it was asked last.
type slow struct {
	files  []api.File
	keys   []string
	asked  bool
	looked int
}

func (s *slow) change(p api.Patch) api.Errno {
	if p.File < 0 || p.File >= len(s.files) {
		return api.ErrRange
	}
	text, err := edit.Apply(s.files[p.File].Text, p.Spans)
	if err != nil {
		return err.(api.Errno)
	}
	if len(text) > api.MaxFile {
		return api.ErrFull
	}
	s.files[p.File].Text = text
	return api.OK
}

func (s *slow) names() []api.Use {
	names, _ := scope.Resolve(s.files)
	return names
}

// end gives where a name ends.
func (s *slow) end(n api.Use) int {
	return n.At + lex.Tokens(s.files[n.File].Text[n.At:])[0].Len
}

func (s *slow) types() []api.Typed {
	s.ask()
	types, _ := infer.Types(s.files)
	return types
}

func (s *slow) notes(file int) []api.Note {
	s.ask()
	notes := tree.New(s.files[file].Text).Notes()
	for _, n := range s.names() {
		if n.File == file && n.Err != api.OK {
			notes = append(notes, api.Note{At: n.At, To: s.end(n), Err: n.Err})
		}
		if n.File == file && n.As == api.UDef && s.typeOf(n) == "" {
			notes = append(notes, api.Note{At: n.At, To: s.end(n), Err: api.ErrType})
		}
	}
	slices.SortFunc(notes, func(a, b api.Note) int {
		return slices.Compare([]int{a.At, a.To, int(a.Err)}, []int{b.At, b.To, int(b.Err)})
	})
	return notes
}

// typeOf gives the type of the def that is named somewhere.
func (s *slow) typeOf(n api.Use) string {
	types, _ := infer.Types(s.files)
	for _, t := range types {
		if !t.Hole && t.File == n.ToFile && t.At == n.To {
			return t.Type
		}
	}
	panic("no def")
}

func (s *slow) where(file, at int) (api.Use, bool) {
	for _, n := range s.names() {
		if n.File == file && n.At <= at && at <= s.end(n) {
			return n, true
		}
	}
	return api.Use{}, false
}

func (s *slow) uses(file, at int) []api.Use {
	n, ok := s.where(file, at)
	if !ok || n.ToFile < 0 || n.To < 0 {
		return nil
	}
	return slices.DeleteFunc(s.names(), func(o api.Use) bool { return o.ToFile != n.ToFile || o.To != n.To })
}

// slowDef is a def: its name, how many of this name stand ahead, its item's text and where that begins, the variables in it.
type slowDef struct {
	use   api.Use
	label string
	text  string
	from  int
	vars  []api.Use
}

// extents gives where the items of a text begin and end, without spaces and remarks ahead of them.
func extents(text string) [][2]int {
	var all [][2]int
	at := 0
	for _, kid := range tree.New(text).Root().Kids {
		whole := tree.Print(kid)
		from := at
		for _, k := range lex.Tokens(whole) {
			if k.Kind != api.TSpace && k.Kind != api.TRemark {
				from += k.At
				break
			}
		}
		at += len(whole)
		all = append(all, [2]int{from, at})
	}
	return all
}

func (s *slow) defs() []slowDef {
	var all []slowDef
	names := s.names()
	for file, f := range s.files {
		ahead := map[string]int{}
		for _, x := range extents(f.Text) {
			d := slowDef{text: f.Text[x[0]:x[1]], from: x[0]}
			isDef := false
			for _, n := range names {
				if n.File != file || n.At < x[0] || n.At >= x[1] {
					continue
				}
				if n.As == api.UDef {
					name := f.Text[n.At:s.end(n)]
					d.use, d.label, isDef = n, fmt.Sprintf("%s %s %d", f.Name, name, ahead[name]), true
					ahead[name]++
				}
				if n.As == api.UVar {
					d.vars = append(d.vars, n)
				}
			}
			if isDef {
				all = append(all, d)
			}
		}
	}
	return all
}

// defOf tells which def a name stands for; -1: none.
func defOf(defs []slowDef, n api.Use) int {
	return slices.IndexFunc(defs, func(d slowDef) bool { return n.To >= 0 && d.use.File == n.ToFile && d.use.At == n.To })
}

// ask finds the keys of all groups.
func (s *slow) ask() {
	defs := s.defs()
	leads := make([][]bool, len(defs))
	for i, d := range defs {
		leads[i] = make([]bool, len(defs))
		leads[i][i] = true
		for _, n := range d.vars {
			if to := defOf(defs, n); to >= 0 {
				leads[i][to] = true
			}
		}
	}
	for k := range defs {
		for i := range defs {
			for j := range defs {
				leads[i][j] = leads[i][j] || leads[i][k] && leads[k][j]
			}
		}
	}
	var keys []string
	s.looked = 0
	for i := range defs {
		key, count, first := "", 0, true
		for j := range defs {
			if leads[i][j] && leads[j][i] {
				key += s.part(defs, leads, j)
				count++
				first = first && j >= i
			}
		}
		if !first {
			continue // it has been told with one ahead
		}
		keys = append(keys, key)
		if !s.asked || !slices.Contains(s.keys, key) {
			s.looked += count
		}
	}
	s.keys, s.asked = keys, true
}

// part gives what a key tells of a def.
func (s *slow) part(defs []slowDef, leads [][]bool, i int) string {
	d := defs[i]
	out := fmt.Sprintf("%s %q", d.label, d.text)
	for _, n := range d.vars {
		to := defOf(defs, n)
		switch {
		case n.To < 0:
			out += " nothing"
		case to < 0:
			out += fmt.Sprint(" ", n.To-d.from)
		case leads[to][i]:
			out += " " + defs[to].label
		default:
			out += " " + defs[to].label + " " + fmt.Sprintf("%q", s.typeOf(defs[to].use))
		}
	}
	return out + "\n"
}

// dice gives numbers that look as if by chance, and are the same each time.
type dice uint64

func (d *dice) roll(n int) int {
	*d = *d*6364136223846793005 + 1442695040888963407
	return int(uint64(*d>>33) % uint64(n))
}

func (d *dice) pick(words string) string {
	all := strings.Fields(words)
	return all[d.roll(len(all))]
}

func (d *dice) name() string { return d.pick("x y z f g é") }

func (d *dice) expression(deep int) string {
	kind := d.roll(12)
	if deep == 0 {
		kind %= 6
	}
	more := func() string { return d.expression(deep - 1) }
	switch kind {
	case 0, 1:
		return d.pick("1 true \"s\" ? 7 []")
	case 2, 3, 4, 5:
		return d.name()
	case 6:
		return "let " + d.name() + " = " + more() + " in " + more()
	case 7:
		return "if " + more() + " then " + more() + " else " + more()
	case 8:
		return "fun(" + d.name() + ") => " + more()
	case 9:
		return "(" + more() + ")(" + more() + ")"
	case 10:
		return more() + " " + d.pick("+ == ++ * <") + " " + more()
	}
	return "[" + more() + ", " + more() + "]"
}

func (d *dice) item() string {
	pub := ""
	if d.roll(3) > 0 {
		pub = "pub "
	}
	switch d.roll(7) {
	case 0:
		return pub + "use " + d.pick("a b c") + "." + d.name() + ";"
	case 1:
		return pub + "use " + d.pick("a b c q") + "." + d.name() + " as " + d.name() + ";"
	case 2, 3:
		return pub + "def " + d.name() + "(" + d.name() + ") = " + d.expression(2) + ";"
	}
	return pub + "def " + d.name() + " = " + d.expression(2) + ";"
}

// files gives one to three files.
func (d *dice) files() []api.File {
	var texts []string
	for range 1 + d.roll(3) {
		text := ""
		for range d.roll(6) {
			text += d.item() + d.pick("_ __ --so_ {-é-}")
		}
		texts = append(texts, strings.NewReplacer("__", " ", "_", "\n").Replace(text))
	}
	return filesOf(texts...)
}

// words are what may be put in for a token.
func (d *dice) words() string {
	switch d.roll(6) {
	case 0:
		return d.name()
	case 1:
		return d.pick("1 22 true false \"s\" ? [] $ \" {-")
	case 2:
		return d.pick("; , ( ) = def use let in pub . -}")
	case 3:
		return " " + d.expression(1) + " "
	case 4:
		return d.item()
	}
	return strings.Repeat(" ", d.roll(3))
}

// piece gives a piece of a text: tokens, an item, or any bytes.
func (d *dice) piece(text string) (from, to int) {
	items, tokens := extents(text), lex.Tokens(text)
	if len(tokens) == 0 {
		return 0, 0
	}
	switch d.roll(8) {
	case 0:
		x := items[d.roll(len(items))]
		return x[0], x[1]
	case 1:
		from := d.roll(len(text) + 1)
		return from, from + d.roll(len(text)-from+1)
	case 2, 3:
		at := tokens[d.roll(len(tokens))].At
		return at, at
	}
	k := tokens[d.roll(len(tokens))]
	return k.At, k.At + k.Len
}

// patch gives one of a file, which is seldom wrong.
func (d *dice) patch(files []api.File) api.Patch {
	p := api.Patch{File: d.roll(len(files))}
	text := files[p.File].Text
	for range d.roll(3) + d.roll(2) {
		from, to := d.piece(text)
		p.Spans = append(p.Spans, api.Span{From: from, To: to, Text: d.words()})
	}
	if d.roll(20) > 0 {
		slices.SortStableFunc(p.Spans, func(a, b api.Span) int { return a.From - b.From })
		for i := 1; i < len(p.Spans); i++ {
			p.Spans[i].From = max(p.Spans[i].From, p.Spans[i-1].To)
			p.Spans[i].To = max(p.Spans[i].To, p.Spans[i].From)
		}
	}
	switch d.roll(40) {
	case 0:
		p.File = len(files)
	case 1:
		p.Spans = append(p.Spans, api.Span{From: len(text), To: len(text) + 1})
	case 2:
		p.Spans = append(p.Spans, api.Span{From: len(text), To: len(text), Text: strings.Repeat(" ", api.MaxFile)})
	}
	return p
}

// ask asks a base and the model for the same, and tells whether they say the same.
func (d *dice) ask(t *testing.T, b *Base, s *slow) {
	t.Helper()
	file := d.roll(len(s.files))
	at := d.roll(len(s.files[file].Text)+3) - 1
	var got, want string
	switch d.roll(7) {
	case 0, 1:
		got, want = fmt.Sprint(b.Types()), fmt.Sprint(s.types())
	case 2:
		notes, err := b.Notes(file)
		got, want = fmt.Sprint(notes, err), fmt.Sprint(s.notes(file), nil)
	case 3:
		got, want = fmt.Sprint(b.Names()), fmt.Sprint(s.names())
	case 4:
		n, ok := b.Where(file, at)
		wanted, has := s.where(file, at)
		got, want = fmt.Sprint(n, ok), fmt.Sprint(wanted, has)
	case 5:
		got, want = fmt.Sprint(b.Uses(file, at)), fmt.Sprint(s.uses(file, at))
	case 6:
		got, want = fmt.Sprint(b.Files()), fmt.Sprint(s.files)
	}
	if got != want || b.Looked() != s.looked {
		t.Fatalf("%q: file %d, at %d: looked at %d, want %d\ngot  %s\nwant %s", s.files, file, at, b.Looked(), s.looked, got, want)
	}
}

func TestBAgainstTheModel(t *testing.T) {
	d := dice(10)
	seen := map[string]int{}
	for range 700 {
		files := d.files()
		b, err := New(files)
		if err != nil {
			t.Fatal(err)
		}
		s := &slow{files: files}
		for range 12 {
			p := d.patch(s.files)
			want := s.change(p)
			if got := number(t, b.Change(p)); got != want {
				t.Fatalf("%q, %v: %v, want %v", s.files, p, got, want)
			}
			seen[want.Error()]++
			for range 1 + d.roll(3) {
				d.ask(t, b, s)
			}
			seen[fmt.Sprint("looked ", min(s.looked, 1), " of ", min(len(s.defs()), 1))]++
			if s.looked > 0 && s.looked < len(s.defs()) {
				seen["some"]++
			}
		}
	}
	for _, kind := range []string{"OK", "ErrRange", "ErrOrder", "ErrFull", "looked 0 of 1", "looked 1 of 1", "some"} {
		if seen[kind] < 50 {
			t.Errorf("%s came %d times: %v", kind, seen[kind], seen)
		}
	}
}

// Numbers that are no places are answered as such.
func TestP1AnyNumbers(t *testing.T) {
	b := begin(t, "def x = y;", "def é = é;")
	numbers := []int{math.MinInt, -2, -1, 0, 1, 2, 4, 5, 9, 10, 11, 12, api.MaxFile, math.MaxInt - 1, math.MaxInt}
	for _, file := range numbers {
		for _, at := range numbers {
			s := &slow{files: filesOf("def x = y;", "def é = é;")}
			n, ok := b.Where(file, at)
			if want, has := s.where(file, at); n != want || ok != has {
				t.Errorf("%d, %d: %v, %v", file, at, n, ok)
			}
			if got := b.Uses(file, at); !slices.Equal(got, s.uses(file, at)) {
				t.Errorf("%d, %d: %v", file, at, got)
			}
			for _, to := range numbers {
				p := api.Patch{File: file, Spans: []api.Span{{From: at, To: to}}}
				c := begin(t, "def x = y;", "def é = é;")
				s := &slow{files: filesOf("def x = y;", "def é = é;")}
				if want, got := s.change(p), number(t, c.Change(p)); got != want || !slices.Equal(c.Files(), s.files) {
					t.Errorf("%v: %v, want %v", p, got, want)
				}
			}
		}
	}
}
