package change

import (
	"fmt"
	"slices"
	"strings"
	"testing"

	"amanuensis/api"
	"amanuensis/lex"
	"amanuensis/scope"
	"amanuensis/syntax"
	"amanuensis/tree"
)

// slow does what the chapter says, by going through all nodes of all trees again and again.
type slow struct {
	files []api.File
	names []api.Use
	nodes [][]*node         // of each file, each ahead of its kids
	words map[[2]int]string // of all tokens, by file and place
}

// node is one of a tree: where its first token begins that is no space and no remark, and where its last one ends (-1: it has none).
type node struct {
	api.Node
	from, to int
	up       *node
	below    []*node
}

// spread makes nodes of a tree that begins at a place, and tells where it ends.
func spread(n api.Node, at int, up *node, all *[]*node) (*node, int) {
	x := &node{n, -1, -1, up, nil}
	*all = append(*all, x)
	if n.Kind == api.NLeaf {
		if n.Tok != api.TSpace && n.Tok != api.TRemark {
			x.from, x.to = at, at+len(n.Text)
		}
		return x, at + len(n.Text)
	}
	for _, k := range n.Kids {
		var kid *node
		kid, at = spread(k, at, x, all)
		x.below = append(x.below, kid)
		if kid.from >= 0 {
			if x.from < 0 {
				x.from = kid.from
			}
			x.to = kid.to
		}
	}
	return x, at
}

func slowOf(files []api.File) *slow {
	s := &slow{files: files, words: map[[2]int]string{}}
	var all []syntax.File
	for i, f := range files {
		for _, k := range lex.Tokens(f.Text) {
			s.words[[2]int{i, k.At}] = f.Text[k.At : k.At+k.Len]
		}
		var nodes []*node
		spread(tree.New(f.Text).Root(), 0, nil, &nodes)
		s.nodes = append(s.nodes, nodes)
		all = append(all, syntax.File{Name: f.Name, Items: syntax.Read(tree.New(f.Text))})
	}
	s.names = scope.Names(all)
	return s
}

func (s *slow) word(file, at int) string { return s.words[[2]int{file, at}] }

func (s *slow) where(file, at int) (api.Use, bool) {
	for _, n := range s.names {
		if n.File == file && n.At <= at && at <= n.At+len(s.word(file, n.At)) {
			return n, true
		}
	}
	return api.Use{}, false
}

// isExpression tells whether a node is one.
func (n *node) isExpression() bool {
	switch n.Kind {
	case api.NLet, api.NIf, api.NFun, api.NBinary, api.NCall, api.NList, api.NGroup, api.NNum, api.NStr, api.NBool, api.NVar, api.NHole:
		return true
	}
	return n.Kind == api.NMissing && n.Text == "expression"
}

// expressions gives those right below a node.
func (n *node) expressions() []*node {
	var all []*node
	for _, k := range n.below {
		if k.isExpression() {
			all = append(all, k)
		}
	}
	return all
}

// above gives the nodes in which one stands, from the innermost on.
func (n *node) above() []*node {
	var all []*node
	for up := n.up; up != nil; up = up.up {
		all = append(all, up)
	}
	return all
}

// bound gives the names of an NParams, or of an NLet, right below a node, and which nodes they are.
func (n *node) bound() []*node {
	var all []*node
	for _, k := range n.below {
		switch {
		case k.Kind == api.NParams:
			for _, p := range k.below {
				if p.Tok == api.TName {
					all = append(all, p)
				}
			}
		case n.Kind == api.NLet && k.Tok == api.TName:
			all = append(all, k)
		}
	}
	return all
}

// around gives the names of the NParams and lets around a node, up to one in which it stands.
func (n *node) around(end *node) []string {
	var all []string
	for inner, up := n, n.up; up != end; inner, up = up, up.up {
		if up.Kind == api.NLet && inner != up.below[len(up.below)-1] {
			continue
		}
		for _, b := range up.bound() {
			all = append(all, b.Text)
		}
	}
	return all
}

// isIn tells whether a place is that of a token of a node.
func (n *node) isIn(at int) bool { return n.from <= at && at < n.to }

// holes tells whether something is missing in a node, or stands a `?`, or a name that stands for nothing.
func (s *slow) holes(file int, n *node) bool {
	if n.Kind == api.NMissing || n.Kind == api.NHole {
		return true
	}
	for _, u := range s.names {
		if u.File == file && n.isIn(u.At) && u.To < 0 {
			return true
		}
	}
	return slices.ContainsFunc(n.below, func(k *node) bool { return s.holes(file, k) })
}

// put is a piece of a text, and what stands there instead.
type put struct {
	from, to int
	text     string
}

// write makes pieces of a text others, from behind.
func write(text string, all []put) string {
	all = slices.Clone(all)
	slices.SortStableFunc(all, func(a, b put) int { return b.from + b.to - a.from - a.to })
	for _, p := range all {
		text = text[:p.from] + p.text + text[p.to:]
	}
	return text
}

// done gives the files that pieces of them make, or what is wrong with these.
func (s *slow) done(all map[int][]put, nested bool) ([]api.File, api.Errno) {
	out := slices.Clone(s.files)
	for file, some := range all {
		out[file].Text = write(out[file].Text, some)
	}
	for file := range out {
		if len(out[file].Text) > 20000 {
			return nil, api.ErrFull
		}
	}
	if !nested {
		return out, api.OK
	}
	for file := range all {
		for _, n := range slowOf(out).nodes[file] {
			if n.Kind == api.NMissing && n.Text == "expression" && deep(n) > 64 {
				return nil, api.ErrFull
			}
		}
	}
	return out, api.OK
}

func deep(n *node) int {
	count := 0
	for _, up := range n.above() {
		switch up.Kind {
		case api.NLet, api.NIf, api.NFun, api.NArgs, api.NGroup, api.NList:
			count++
		}
	}
	return count
}

func (s *slow) rename(file, at int, name string) ([]api.File, api.Errno) {
	one, ok := s.where(file, at)
	if !ok || one.To < 0 {
		return nil, api.ErrRange
	}
	if !lex.Name(name) {
		return nil, api.ErrName
	}
	all := map[int][]put{}
	old := s.word(one.ToFile, one.To)
	for _, n := range s.names {
		if n.ToFile == one.ToFile && n.To == one.To && s.word(n.File, n.At) == old {
			all[n.File] = append(all[n.File], put{n.At, n.At + len(old), name})
		}
	}
	out := slices.Clone(s.files)
	for i := range out {
		out[i].Text = write(out[i].Text, all[i])
	}
	moved := func(file, at int) int {
		to := at
		for _, p := range all[file] {
			if p.from < at {
				to += len(name) - len(old)
			}
		}
		return to
	}
	now := slowOf(out).names
	for i, n := range s.names {
		want := n
		want.At = moved(n.File, n.At)
		if n.To >= 0 {
			want.To = moved(n.ToFile, n.To)
		}
		if now[i] != want {
			return nil, api.ErrClash
		}
	}
	return s.done(all, false)
}

func (s *slow) extract(file, from, to int, name string) ([]api.File, api.Errno) {
	var e *node
	for _, n := range s.nodes[file] {
		ups := n.above()
		if n.isExpression() && n.Kind != api.NMissing && n.from == from && n.to == to && ups[len(ups)-2].Kind == api.NDef {
			e = n
		}
	}
	if e == nil {
		return nil, api.ErrRange
	}
	if s.holes(file, e) {
		return nil, api.ErrHole
	}
	if !lex.Name(name) {
		return nil, api.ErrName
	}
	for _, item := range syntax.Read(tree.New(s.files[file].Text)) {
		if item.Called().Text == name {
			return nil, api.ErrTwice
		}
	}
	if slices.Contains(e.around(nil), name) {
		return nil, api.ErrClash
	}
	var outer []string
	for _, u := range s.names {
		if u.File != file || !e.isIn(u.At) || u.ToFile == file && e.isIn(u.To) {
			continue
		}
		target := slices.IndexFunc(s.names, func(n api.Use) bool { return n.File == u.ToFile && n.At == u.To })
		if as := s.names[target].As; (as == api.UParam || as == api.ULet) && !slices.Contains(outer, s.word(file, u.At)) {
			outer = append(outer, s.word(file, u.At))
		}
	}
	list := name
	if len(outer) > 0 {
		list = fmt.Sprintf("%s(%s)", name, strings.Join(outer, ", "))
	}
	ups := e.above()
	item := ups[len(ups)-2]
	text := s.files[file].Text[from:to]
	return s.done(map[int][]put{file: {{item.from, item.from, "def " + list + " = " + text + ";\n"}, {from, to, " " + list + " "}}}, true)
}

// params gives the NParams of the def that is named at a place, if there is one.
func (s *slow) params(file, at int) (*node, bool) {
	for _, n := range s.nodes[file] {
		if n.Kind != api.NDef {
			continue
		}
		for i, k := range n.below {
			if k.Tok == api.TName && k.from == at && n.below[i+1].Kind == api.NParams {
				return n.below[i+1], true
			}
			if k.Tok == api.TName && k.from == at {
				return nil, true
			}
		}
	}
	return nil, false
}

func (s *slow) isPlain(file int, n *node) bool {
	switch n.Kind {
	case api.NNum, api.NStr, api.NBool, api.NFun:
		return true
	case api.NGroup:
		return s.isPlain(file, n.expressions()[0])
	case api.NVar:
		u, _ := s.where(file, n.from)
		if u.To < 0 {
			return false
		}
		params, isDef := s.params(u.ToFile, u.To)
		return !isDef || params != nil
	}
	return false
}

func (s *slow) inline(file, at int) ([]api.File, api.Errno) {
	one, ok := s.where(file, at)
	if !ok || one.As != api.ULet {
		return nil, api.ErrRange
	}
	var let *node
	for _, n := range s.nodes[file] {
		if n.Kind == api.NLet && len(n.bound()) == 1 && n.bound()[0].from == one.At {
			let = n
		}
	}
	value, body := let.expressions()[0], let.expressions()[1]
	if !s.isPlain(file, value) {
		return nil, api.ErrType
	}
	if s.holes(file, value) || body.Kind == api.NMissing {
		return nil, api.ErrHole
	}
	var free []string
	for _, u := range s.names {
		if u.File == file && value.isIn(u.At) && (u.ToFile != file || !value.isIn(u.To)) {
			free = append(free, s.word(file, u.At))
		}
	}
	all := []put{{let.from, body.from, ""}}
	for _, n := range s.nodes[file] {
		if u, _ := s.where(file, n.from); n.Kind != api.NVar || !body.isIn(n.from) || u.ToFile != file || u.To != one.At {
			continue
		}
		if slices.ContainsFunc(n.around(let), func(name string) bool { return slices.Contains(free, name) }) {
			return nil, api.ErrClash
		}
		all = append(all, put{n.from, n.to, "(" + s.files[file].Text[value.from:value.to] + ")"})
	}
	return s.done(map[int][]put{file: all}, true)
}

func (s *slow) order(file, at int, order []int) ([]api.File, api.Errno) {
	one, ok := s.where(file, at)
	if !ok || one.To < 0 {
		return nil, api.ErrRange
	}
	params, _ := s.params(one.ToFile, one.To)
	if params == nil {
		return nil, api.ErrRange
	}
	var names []*node
	for _, k := range params.below {
		if k.Tok == api.TName || k.Kind == api.NMissing && k.Text == "name" {
			names = append(names, k)
		}
	}
	sorted := slices.Sorted(slices.Values(order))
	for i, n := range sorted {
		if i != n {
			return nil, api.ErrRange
		}
	}
	if len(sorted) != len(names) {
		return nil, api.ErrRange
	}
	for _, n := range names {
		if n.Kind == api.NMissing {
			return nil, api.ErrHole
		}
	}
	for i, n := range names {
		for _, m := range names[:i] {
			if n.Text == m.Text {
				return nil, api.ErrTwice
			}
		}
	}
	calls := map[int][]*node{}
	for _, u := range s.names {
		if u.As != api.UVar || u.ToFile != one.ToFile || u.To != one.To {
			continue
		}
		i := slices.IndexFunc(s.nodes[u.File], func(n *node) bool { return n.Kind == api.NVar && n.from == u.At })
		v := s.nodes[u.File][i]
		if v.up.Kind != api.NCall || v.up.below[0] != v || len(v.up.below[1].expressions()) != len(order) {
			return nil, api.ErrClash
		}
		calls[u.File] = append(calls[u.File], v.up.below[1])
	}
	out := slices.Clone(s.files)
	var text func(file int, n *node) string // of a node, from its first token to its last, as it becomes
	texts := func(file int, n *node, parts []*node) string {
		var all []put
		for i, p := range parts {
			all = append(all, put{p.from - n.from, p.to - n.from, text(file, parts[order[i]])})
		}
		return write(s.files[file].Text[n.from:n.to], all)
	}
	text = func(file int, n *node) string {
		if slices.Contains(calls[file], n) {
			return texts(file, n, n.expressions())
		}
		if n == params {
			return texts(file, n, names)
		}
		var all []put
		for _, k := range n.below {
			if k.from >= 0 {
				all = append(all, put{k.from - n.from, k.to - n.from, text(file, k)})
			}
		}
		if n.Kind == api.NLeaf {
			return n.Text
		}
		return write(s.files[file].Text[n.from:n.to], all)
	}
	for _, all := range calls {
		for _, n := range all {
			if slices.ContainsFunc(n.expressions(), func(e *node) bool { return e.Kind == api.NMissing }) {
				return nil, api.ErrHole
			}
		}
	}
	for i := range out {
		if root := s.nodes[i][0]; root.from >= 0 {
			out[i].Text = out[i].Text[:root.from] + text(i, root) + out[i].Text[root.to:]
		}
	}
	return out, api.OK
}

// dice gives numbers that look as if by chance, and are the same each time.
type dice uint64

func (d *dice) roll(n int) int {
	*d = *d*6364136223846793005 + 1442695040888963407
	return int(uint64(*d>>33) % uint64(n))
}

func (d *dice) pick(words string) string {
	all := strings.Fields(words)
	return all[d.roll(len(all))]
}

func (d *dice) name() string { return d.pick("x y z f g é") }

// space is what stands between tokens.
func (d *dice) space() string {
	return strings.NewReplacer("0", "", "_", " ", "n", "\n").Replace(d.pick("0 _ _ _ n {--} _{-é-}_ --son"))
}

// list gives some things with commas between them.
func (d *dice) list(most int, one func() string) string {
	var all []string
	for range d.roll(most + 1) {
		all = append(all, one())
	}
	return strings.Join(all, d.space()+","+d.space())
}

func (d *dice) params() string { return "(" + d.space() + d.list(3, d.name) + ")" }

// called gives the name of a def, and how many names that should have.
func (d *dice) called() (string, int) {
	i := d.roll(3)
	return []string{"f", "g", "é"}[i], []int{2, 3, 1}[i]
}

// several gives so many things, or now and then any number of them.
func (d *dice) several(n int, one func() string) string {
	if d.roll(12) == 0 {
		return d.list(3, one)
	}
	var all []string
	for range n {
		all = append(all, one())
	}
	if d.roll(40) == 0 {
		all[d.roll(n)] = ""
	}
	return strings.Join(all, d.space()+","+d.space())
}

func (d *dice) plain() string {
	if d.roll(60) == 0 {
		return d.pick("? nothing ( ,")
	}
	if d.roll(3) == 0 {
		return d.pick("1 true \"s\" 22 []")
	}
	return d.name()
}

func (d *dice) expression(deep int) string {
	kind := d.roll(16)
	if deep == 0 {
		kind %= 4
	}
	more := func() string { return d.expression(deep - 1) }
	s := d.space
	switch kind {
	case 0, 1, 2, 3:
		return d.plain()
	case 4:
		return "if " + more() + " then " + more() + " else " + more()
	case 5, 6:
		return "fun" + s() + d.params() + s() + "=>" + s() + more()
	case 7:
		return "(" + s() + more() + s() + ")"
	case 8:
		return more() + " " + d.pick("+ == ++ * < -") + " " + more()
	case 9:
		return "[" + d.list(3, more) + "]"
	case 10, 11, 12:
		name, n := d.called()
		return name + s() + "(" + d.several(n, more) + s() + ")"
	case 13:
		return "(" + more() + ")(" + more() + ")"
	}
	value, name := more(), d.name()
	if d.roll(3) > 0 {
		value = d.pick("x y z f g 1 (x) ((f)) \"é\" fun(y)=>[x,y,f] fun()=>(z)")
	}
	let := "let " + name + s() + "=" + s() + value + " in "
	switch d.roll(4) {
	case 0:
		return let + "fun" + d.params() + " => [" + name + s() + "," + more() + "]"
	case 1:
		return let + "let " + d.name() + " = " + more() + " in " + d.name() + "+" + name
	}
	return let + more()
}

func (d *dice) item() string {
	pub := ""
	if d.roll(3) > 0 {
		pub = "pub "
	}
	name, n := d.called()
	switch d.roll(8) {
	case 0:
		return pub + "use " + d.pick("a a b") + "." + name + ";"
	case 1:
		return pub + "use " + d.pick("a a b q") + "." + name + " as " + d.name() + ";"
	case 2, 3, 4, 5:
		return pub + "def " + name + d.space() + "(" + d.several(n, func() string { return d.pick("x y z w v u") }) + ") = " + d.expression(3) + ";"
	}
	return pub + "def " + d.name() + " = " + d.expression(3) + ";"
}

// workspace gives some files; now and then pieces of them are wrong.
func (d *dice) workspace() []api.File {
	var texts []string
	linked := d.roll(3) == 0 // all files know one def
	for i := range 1 + d.roll(3) {
		text := ""
		if linked {
			text = []string{"pub def f(x, y) = x;", "use a.f; def k = f(1, z);", "use a.f as y; def x = y(f, 1);"}[i]
		}
		for range 1 + d.roll(4) {
			text += d.item() + d.space()
		}
		for range d.roll(8) / 6 {
			tokens := lex.Tokens(text)
			if len(tokens) == 0 {
				break
			}
			k := tokens[d.roll(len(tokens))]
			text = text[:k.At] + strings.ReplaceAll(d.pick("_ ? ( ) let in def , x = == \" é 1 ; $"), "_", "") + text[k.At+k.Len*d.roll(2):]
		}
		texts = append(texts, text)
	}
	return filesOf(texts...)
}

// spot gives a place in some file; mostly one at which a name stands as something, or as anything (-1).
func (d *dice) spot(s *slow, as int) (file, at int) {
	var fit []api.Use
	for _, n := range s.names {
		if n.As == as || as == -1 {
			fit = append(fit, n)
		}
	}
	if len(fit) > 0 && d.roll(12) > 0 {
		n := fit[d.roll(len(fit))]
		return n.File, n.At + d.roll(2)
	}
	file = d.roll(len(s.files))
	return file, d.roll(len(s.files[file].Text)+3) - 1
}

// piece gives a piece of some file; mostly an expression.
func (d *dice) piece(s *slow) (file, from, to int) {
	file, from = d.spot(s, -1)
	to = from + d.roll(12)
	var fit []*node
	for _, n := range s.nodes[file] {
		if n.isExpression() {
			fit = append(fit, n)
		}
	}
	if len(fit) > 0 && d.roll(12) > 0 {
		n := fit[d.roll(len(fit))]
		from, to = n.from, n.to
	}
	return file, from, to
}

// ask asks for one thing, and tells what was asked, and what is answered.
func (d *dice) ask(s *slow) (string, []api.Patch, error, []api.File, api.Errno) {
	name := d.pick("x y z f g é new h w a 1 def")
	switch d.roll(4) {
	case 0:
		file, at := d.spot(s, -1)
		p, err := Rename(s.files, file, at, name)
		out, wrong := s.rename(file, at, name)
		return fmt.Sprint("rename ", file, " ", at, " ", name), p, err, out, wrong
	case 1:
		file, from, to := d.piece(s)
		p, err := Extract(s.files, file, from, to, name)
		out, wrong := s.extract(file, from, to, name)
		return fmt.Sprint("extract ", file, " ", from, " ", to, " ", name), p, err, out, wrong
	case 2:
		file, at := d.spot(s, api.ULet)
		p, err := Inline(s.files, file, at)
		out, wrong := s.inline(file, at)
		return fmt.Sprint("inline ", file, " ", at), p, err, out, wrong
	}
	file, at := d.spot(s, []int{api.UDef, api.UDef, api.UItem}[d.roll(3)])
	order := [][]int{{}, {0}, {0, 1}, {1, 0}, {1, 0}, {2, 0, 1}, {1, 2, 0}, {0, 2}}[d.roll(8)]
	if u, ok := s.where(file, at); ok && u.To >= 0 && d.roll(8) > 0 {
		if params, _ := s.params(u.ToFile, u.To); params != nil {
			count := 0
			for _, k := range params.below {
				if k.Tok == api.TName || k.Kind == api.NMissing && k.Text == "name" {
					count++
				}
			}
			order = [][]int{{}, {0}, {1, 0}, {1, 2, 0}}[min(count, 3)]
		}
	}
	p, err := Order(s.files, file, at, order)
	out, wrong := s.order(file, at, order)
	return fmt.Sprint("order ", file, " ", at, " ", order), p, err, out, wrong
}

func TestCAgainstTheModel(t *testing.T) {
	d := dice(11)
	seen := map[string]int{}
	for range 3200 {
		s := slowOf(d.workspace())
		for range 6 {
			asked, p, err, want, wrong := d.ask(s)
			if number(t, err) != wrong || err != nil && p != nil {
				t.Fatalf("%q: %s: %v, %v, want %v", s.files, asked, p, err, wrong)
			}
			if err == nil && !slices.Equal(patched(t, s.files, p), want) {
				t.Fatalf("%q: %s:\n%q, want\n%q", s.files, asked, patched(t, s.files, p), want)
			}
			seen[strings.Fields(asked)[0]+" "+wrong.Error()]++
			if len(p) > 1 {
				seen[strings.Fields(asked)[0]+" of several files"]++
			}
		}
	}
	t.Log(seen)
	for _, kind := range []string{"rename OK", "rename ErrRange", "rename ErrName", "rename ErrClash", "rename of several files",
		"extract OK", "extract ErrRange", "extract ErrHole", "extract ErrName", "extract ErrTwice", "extract ErrClash",
		"inline OK", "inline ErrRange", "inline ErrType", "inline ErrHole", "inline ErrClash",
		"order OK", "order ErrRange", "order ErrHole", "order ErrTwice", "order ErrClash", "order of several files"} {
		if seen[kind] < 30 {
			t.Errorf("%s came %d times", kind, seen[kind])
		}
	}
}
