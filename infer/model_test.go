package infer

import (
	"slices"
	"strconv"
	"strings"
	"testing"

	"amanuensis/api"
	"amanuensis/scope"
	"amanuensis/syntax"
	"amanuensis/tree"
)

// slowType is a type as a tree: a variable has a number, all else a word and parts (a function: what it gives is the last one).
type slowType struct {
	word  string
	id    int
	parts []slowType
}

func variableType(id int) slowType                     { return slowType{id: id} }
func wordType(word string, parts ...slowType) slowType { return slowType{word: word, parts: parts} }
func (s *slow) fresh() slowType                        { s.next++; return variableType(s.next) }
func functionType(parts []slowType, gives slowType) slowType {
	return wordType("->", append(slices.Clone(parts), gives)...)
}

// slow finds types as the chapter tells it, without care for time: nothing is ever made general.
// Instead, each time that a name of a let stands, what the let gives it is gone through anew, where the let stands;
// each time that a name of a def stands, which is not of the group, that def's whole group is.
type slow struct {
	stands map[place]place
	defs   []slowDef
	reach  [][]bool
	has    []int // whether a def has a type: 0: not known yet; 1: it has; 2: it has none
	texts  map[place]string
	next   int
	is     map[int]slowType // what variables have turned out to be
	fuel   int
}

type slowDef struct {
	*syntax.Def
	at place
}

// slowBlock has the innermost thing that is named: a parameter, with its type, or a let, with its value and what is around it.
type slowBlock struct {
	at    int
	is    slowType
	value syntax.Expression
	out   *slowBlock
}

// slowRun goes through a group, or again through a piece of it; only the first time, what is found counts.
type slowRun struct {
	*slow
	group map[place]slowType
	file  int
	first bool
	all   []slowType // of expressions
	holes map[place]slowType
}

// noType ends what has none; noFuel what takes too long.
type noType struct{}
type noFuel struct{}

func slowOf(files []api.File, names []api.Use) *slow {
	s := &slow{stands: map[place]place{}, texts: map[place]string{}, is: map[int]slowType{}, fuel: 100000}
	for _, n := range names {
		s.stands[place{n.File, n.At}] = place{n.ToFile, n.To}
	}
	for i, f := range files {
		for _, item := range syntax.Read(tree.New(f.Text)) {
			if d, ok := item.(*syntax.Def); ok && d.Name.Text != "" {
				s.defs = append(s.defs, slowDef{d, place{i, d.Name.At}})
			}
		}
	}
	s.has = make([]int, len(s.defs))
	s.leads()
	return s
}

// inner gives all expressions in one, from the left, it among them.
func inner(e syntax.Expression) []syntax.Expression {
	all := []syntax.Expression{e}
	for _, p := range e.Parts() {
		all = append(all, inner(p)...)
	}
	return all
}

// leads finds which def leads to which, over any others.
func (s *slow) leads() {
	s.reach = make([][]bool, len(s.defs))
	for i, d := range s.defs {
		s.reach[i] = make([]bool, len(s.defs))
		for _, e := range inner(d.Body) {
			if v, ok := e.(*syntax.Var); ok {
				if j := s.def(s.stands[place{d.at.file, v.Name.At}]); j >= 0 {
					s.reach[i][j] = true
				}
			}
		}
	}
	for k := range s.defs {
		for i := range s.defs {
			for j := range s.defs {
				s.reach[i][j] = s.reach[i][j] || s.reach[i][k] && s.reach[k][j]
			}
		}
	}
}

// def gives the number of the def that is named at a place, or -1.
func (s *slow) def(at place) int {
	return slices.IndexFunc(s.defs, func(d slowDef) bool { return d.at == at })
}

// hasTypes tells whether the group of a def has types, and finds them, if nobody asked before.
func (s *slow) hasTypes(def int) bool {
	if s.has[def] == 0 {
		s.ask(def)
	}
	return s.has[def] == 1
}

func (s *slow) members(def int) []int {
	var all []int
	for i := range s.defs {
		if i == def || s.reach[i][def] && s.reach[def][i] {
			all = append(all, i)
		}
	}
	return all
}

func (s *slow) ask(def int) {
	state := 2
	defer func() {
		for _, i := range s.members(def) {
			s.has[i] = state
		}
		if r := recover(); r != nil && r != any(noType{}) {
			panic(r)
		}
	}()
	r := s.run(def, true)
	for _, t := range r.all {
		if s.count(t, api.MaxParts+1) > api.MaxParts {
			panic(noType{})
		}
	}
	for at, t := range r.group {
		s.texts[at] = s.text(t)
	}
	for at, t := range r.holes {
		s.texts[at] = s.text(t)
	}
	state = 1
}

// run goes through the group of a def.
func (s *slow) run(def int, first bool) *slowRun {
	r := &slowRun{slow: s, group: map[place]slowType{}, first: first, holes: map[place]slowType{}}
	for _, i := range s.members(def) {
		r.group[s.defs[i].at] = s.fresh()
	}
	for _, i := range s.members(def) {
		d := s.defs[i]
		r.file = d.at.file
		if d.Params == nil {
			s.same(r.group[d.at], r.expression(d.Body, nil))
		} else {
			s.same(r.group[d.at], r.function(d.Params, d.Body, nil))
		}
	}
	return r
}

func (r *slowRun) function(p *syntax.Params, body syntax.Expression, in *slowBlock) slowType {
	var parts []slowType
	for _, n := range p.Names {
		t := r.fresh()
		parts = append(parts, t)
		if n.Text != "" {
			in = &slowBlock{at: n.At, is: t, out: in}
		}
	}
	return functionType(parts, r.expression(body, in))
}

func (r *slowRun) expression(e syntax.Expression, in *slowBlock) slowType {
	r.burn()
	t := r.kind(e, in)
	if r.first {
		r.all = append(r.all, t)
	}
	return t
}

func (r *slowRun) kind(e syntax.Expression, in *slowBlock) slowType {
	switch e := e.(type) {
	case *syntax.Literal:
		return wordType(map[int]string{api.NNum: "int", api.NStr: "text", api.NBool: "bool"}[e.Kind])
	case *syntax.Hole:
		t := r.fresh()
		if r.first {
			r.holes[place{r.file, e.From}] = t
		}
		return t
	case *syntax.Missing:
		return r.fresh()
	case *syntax.Var:
		return r.name(e, in)
	case *syntax.Let:
		r.expression(e.Value, in)
		if e.Name.Text != "" {
			in = &slowBlock{at: e.Name.At, value: e.Value, out: in}
		}
		return r.expression(e.Body, in)
	case *syntax.If:
		r.same(r.expression(e.Test, in), wordType("bool"))
		t := r.expression(e.Then, in)
		r.same(r.expression(e.Else, in), t)
		return t
	case *syntax.Fun:
		return r.function(e.Params, e.Body, in)
	case *syntax.Binary:
		a, b := r.expression(e.Left, in), r.expression(e.Right, in)
		r.same(a, b)
		switch e.Sign {
		case "==":
			return wordType("bool")
		case "<":
			r.same(a, wordType("int"))
			return wordType("bool")
		case "++":
			r.same(a, wordType("text"))
		default:
			r.same(a, wordType("int"))
		}
		return a
	case *syntax.Call:
		t := r.expression(e.Called, in)
		var parts []slowType
		for _, a := range e.Args {
			parts = append(parts, r.expression(a, in))
		}
		gives := r.fresh()
		r.same(t, functionType(parts, gives))
		return gives
	case *syntax.List:
		t := r.fresh()
		for _, a := range e.All {
			r.same(t, r.expression(a, in))
		}
		return wordType("[]", t)
	case *syntax.Group:
		return r.expression(e.Inner, in)
	}
	panic("no expression")
}

func (r *slowRun) name(v *syntax.Var, in *slowBlock) slowType {
	to := r.stands[place{r.file, v.Name.At}]
	if t, ok := r.group[to]; ok {
		return t
	}
	if def := r.def(to); def >= 0 {
		if !r.hasTypes(def) {
			return r.fresh()
		}
		return r.run(def, false).group[to]
	}
	if to.at < 0 {
		return r.fresh()
	}
	for in.at != to.at {
		in = in.out
	}
	if in.value == nil {
		return in.is
	}
	again := *r
	again.first = false
	return again.expression(in.value, in.out)
}

func (s *slow) burn() {
	if s.fuel--; s.fuel < 0 {
		panic(noFuel{})
	}
}

// now gives what a type has turned out to be, as far as its outermost part goes.
func (s *slow) now(t slowType) slowType {
	for t.word == "" {
		to, ok := s.is[t.id]
		if !ok {
			return t
		}
		t = to
	}
	return t
}

func (s *slow) same(a, b slowType) {
	s.burn()
	a, b = s.now(a), s.now(b)
	switch {
	case a.word == "" && b.word == "" && a.id == b.id:
	case a.word == "":
		if s.holds(b, a.id) {
			panic(noType{})
		}
		s.is[a.id] = b
	case b.word == "":
		s.same(b, a)
	case a.word != b.word || len(a.parts) != len(b.parts):
		panic(noType{})
	default:
		for i := range a.parts {
			s.same(a.parts[i], b.parts[i])
		}
	}
}

// holds tells whether a variable is in a type.
func (s *slow) holds(t slowType, id int) bool {
	s.burn()
	t = s.now(t)
	return t.word == "" && t.id == id || slices.ContainsFunc(t.parts, func(p slowType) bool { return s.holds(p, id) })
}

// count counts the parts of a type, up to a most.
func (s *slow) count(t slowType, most int) int {
	n := 1
	for _, p := range s.now(t).parts {
		if n < most {
			n += s.count(p, most-n)
		}
	}
	return n
}

func (s *slow) text(t slowType) string {
	seen := map[int]string{}
	return s.write(t, seen)
}

func (s *slow) write(t slowType, seen map[int]string) string {
	t = s.now(t)
	var parts []string
	for _, p := range t.parts {
		parts = append(parts, s.write(p, seen))
	}
	switch t.word {
	case "":
		if seen[t.id] == "" {
			name := string("abcdefghijklmnopqrstuvwxyz"[len(seen)%26])
			if n := len(seen) / 26; n > 0 {
				name += strconv.Itoa(n)
			}
			seen[t.id] = name
		}
		return seen[t.id]
	case "[]":
		return "[" + parts[0] + "]"
	case "->":
		last := len(parts) - 1
		return "(" + strings.Join(parts[:last], ", ") + ") -> " + parts[last]
	}
	return t.word
}

// tell gives what Types has to, and false, if that would take too long.
func (s *slow) tell() (out []api.Typed, ok bool) {
	defer func() {
		if r := recover(); r != nil && r != any(noFuel{}) {
			panic(r)
		}
	}()
	for i, d := range s.defs {
		s.hasTypes(i)
		out = append(out, api.Typed{File: d.at.file, At: d.at.at, Type: s.texts[d.at]})
		for _, e := range inner(d.Body) {
			if h, ok := e.(*syntax.Hole); ok {
				out = append(out, api.Typed{File: d.at.file, At: h.From, Hole: true, Type: s.texts[place{d.at.file, h.From}]})
			}
		}
	}
	return out, true
}

// dice gives numbers that are the same in each run.
type dice uint64

func (d *dice) roll(n int) int {
	*d = *d*6364136223846793005 + 1442695040888963407
	return int(uint64(*d) >> 33 % uint64(n))
}

func (d *dice) pick(all ...string) string { return all[d.roll(len(all))] }

// params gives an NParams; now and then one with a name that is missing, or twice.
func (d *dice) params() string {
	var all []string
	for range d.roll(3) + d.roll(2) {
		all = append(all, d.pick("x", "y", "z", "u", "v", "w", "f", ""))
	}
	return "(" + strings.Join(all, ", ") + ")"
}

// expression gives one that may well be of the type that is wished: `i`, `b`, `t`, `l`, `f`, or any.
func (d *dice) expression(deep int, wish string) string {
	if wish == "" {
		wish = d.pick("i", "i", "b", "t", "l", "f")
	}
	if deep == 0 || d.roll(6) == 0 {
		return d.plain(wish)
	}
	again := func(wish string) string { return d.expression(deep-1, wish) }
	switch d.roll(9) {
	case 0:
		return "(" + again(wish) + ")"
	case 1:
		return "(if " + again("b") + " then " + again(wish) + " else " + again(wish) + ")"
	case 2, 3:
		return "(let " + d.pick("x", "y", "z", "u", "v") + " = " + again("") + " in " + again(wish) + ")"
	case 4:
		return d.pick("f", "g", "h", "x", "y") + "(" + d.args(again) + ")"
	case 5:
		return "(fun(" + d.pick("x", "y", "u") + ") => " + again(wish) + ")(" + again("") + ")"
	}
	switch wish {
	case "i":
		return "(" + again("i") + d.pick("+", "-", "*") + again("i") + ")"
	case "b":
		if d.roll(2) == 0 {
			return "(" + again("i") + "<" + again("i") + ")"
		}
		other := d.pick("i", "b", "t", "l", "f")
		return "(" + again(other) + "==" + again(other) + ")"
	case "t":
		return "(" + again("t") + "++" + again("t") + ")"
	case "l":
		return "[" + d.args(again) + "]"
	}
	return "(fun" + d.params() + " => " + again("") + ")"
}

func (d *dice) args(again func(string) string) string {
	wish := d.pick("i", "i", "b", "t", "l", "f", "")
	var all []string
	for range d.roll(3) {
		all = append(all, again(wish))
	}
	return strings.Join(all, ", ")
}

func (d *dice) plain(wish string) string {
	switch d.roll(12) {
	case 0, 1, 2:
		return d.pick("x", "y", "z", "u", "v")
	case 3, 4, 5:
		return d.pick("f", "g", "h")
	case 6:
		return d.pick("?", "?", "?", "?", "")
	}
	switch wish {
	case "i":
		return d.pick("0", "1", "22")
	case "b":
		return d.pick("true", "false")
	case "t":
		return d.pick(`""`, `"a"`)
	case "l":
		return "[]"
	}
	return d.pick("fun(x) => x", "fun() => 1", "fun(x, y) => x(y)", "fun(x) => fun(y) => y(x, x)")
}

func (d *dice) item() string {
	if d.roll(8) == 0 {
		return "pub use " + d.pick("a", "b", "c") + "." + d.pick("f", "g", "h") + d.pick("", " as g", " as x") + ";"
	}
	text := d.pick("pub ", "pub ", "") + "def " + d.pick("f", "g", "h", "x", "y", "z", "w")
	if d.roll(2) == 0 {
		text += d.params()
	}
	return text + " = " + d.expression(d.roll(5), "") + ";"
}

// files gives some; now and then with a piece that is wrong.
func (d *dice) files() []api.File {
	var all []api.File
	for i := range 1 + d.roll(3) {
		text := ""
		for range 1 + d.roll(4) {
			text += d.item() + d.pick("", " ", "\n")
		}
		for range d.roll(8) / 6 {
			at := d.roll(len(text))
			text = text[:at] + d.pick("?", "(", ")", "def", " ", "é", "in", ",", "=", "x") + text[min(len(text), at+d.roll(3)):]
		}
		all = append(all, api.File{Name: string(rune('a' + i)), Text: text})
	}
	return all
}

// tally counts what was told.
type tally struct{ with, without, long int }

// compare holds Types against the model.
func (c *tally) compare(t *testing.T, files []api.File) {
	t.Helper()
	names, err := scope.Resolve(files)
	if err != nil {
		t.Fatal(err)
	}
	want, ok := slowOf(files, names).tell()
	if !ok {
		c.long++
		return
	}
	got, err := Types(files)
	if err != nil || !slices.Equal(got, want) {
		t.Fatalf("%q:\ngot  %v, %v\nwant %v", files, got, err, want)
	}
	for _, w := range want {
		if w.Type == "" {
			c.without++
		} else {
			c.with++
		}
	}
}

// good tells whether enough of each was among it.
func (c *tally) good(t *testing.T, enough int) {
	t.Helper()
	t.Log(*c)
	if c.with < enough || c.without < enough || c.long > enough {
		t.Errorf("%v: these are no good dice", *c)
	}
}

func TestY3AsTheModel(t *testing.T) {
	d, c := dice(7), &tally{}
	for range 8000 {
		c.compare(t, d.files())
	}
	c.good(t, 5000)
}

// great gives an expression whose type is of about MaxParts parts, with names that stand for such ones too.
func (d *dice) great(deep int) string {
	if deep == 0 {
		return d.pick("1", "x", "y", "f", "g", "?", d.wide(), d.wide())
	}
	again := func() string { return d.great(deep - 1) }
	switch d.roll(9) {
	case 0:
		return "d(" + again() + ")"
	case 1:
		return "d(d(" + again() + "))"
	case 2:
		return "e(" + again() + ")"
	case 3:
		return "(let " + d.pick("x", "y") + " = " + again() + " in " + again() + ")"
	case 4:
		return "[" + again() + ", " + again() + "]"
	case 5:
		return "(fun(x) => " + again() + ")"
	case 6:
		return "(fun(x, y) => [" + again() + ", " + again() + "])"
	case 7:
		return "(if " + again() + " == " + again() + " then " + again() + " else " + again() + ")"
	}
	return "(fun(x) => " + again() + ")(" + again() + ")"
}

// wide gives a function of many names.
func (d *dice) wide() string {
	var names []string
	for i := range []int{20, 47, 97, 196}[d.roll(4)] + d.roll(4) {
		names = append(names, "p"+strconv.Itoa(i))
	}
	return "(fun(" + strings.Join(names, ",") + ")=>" + d.pick("1", "p0", "?") + ")"
}

func TestY2GreatAsTheModel(t *testing.T) {
	d, c := dice(8), &tally{}
	for range 2000 {
		text := "def d(x)=fun(k)=>k(x,x);def e(x)=1;def f=" + d.great(d.roll(4)) + ";def g" + d.pick("", "(y)", "(x,y)") + "=" + d.great(d.roll(4)) + ";"
		c.compare(t, []api.File{{Name: "a", Text: text}})
	}
	c.good(t, 1000)
}
