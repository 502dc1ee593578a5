package scope

import (
	"slices"
	"strconv"
	"strings"
	"testing"

	"amanuensis/api"
	"amanuensis/lex"
	"amanuensis/tree"
)

// mark is a name, with the nodes that it stands in, from the outermost on, and by which kid of each.
type mark struct {
	text  string
	at    int
	nodes []api.Node
	kids  []int
}

// in gives the innermost node around it, and by which kid.
func (m mark) in() (api.Node, int) {
	last := len(m.nodes) - 1
	return m.nodes[last], m.kids[last]
}

// marks gives all names in a node, and where it ends.
func marks(n api.Node, at int, nodes []api.Node, kids []int) ([]mark, int) {
	if n.Kind == api.NLeaf {
		if n.Tok == api.TName {
			return []mark{{n.Text, at, slices.Clone(nodes), slices.Clone(kids)}}, at + len(n.Text)
		}
		return nil, at + len(n.Text)
	}
	var all []mark
	for i, k := range n.Kids {
		var some []mark
		some, at = marks(k, at, append(nodes, n), append(kids, i))
		all = append(all, some...)
	}
	return all, at
}

// slow finds names as the chapter tells it, without care for time, in the nodes of trees.
type slow struct {
	files []api.File
	marks [][]mark // of each file, without those in an NJunk
	items [][]slowItem
}

// slowItem is an item: its number among the kids of the root, what is there of it.
type slowItem struct {
	kid                       int
	pub, use, as              bool
	name, module, item, alias *mark
}

func slowOf(files []api.File) *slow {
	s := &slow{files: files}
	for _, f := range files {
		all, _ := marks(tree.New(f.Text).Root(), 0, nil, nil)
		s.marks = append(s.marks, slices.DeleteFunc(all, func(m mark) bool { return m.nodes[1].Kind == api.NJunk }))
	}
	for i := range files {
		s.items = append(s.items, s.itemsOf(i))
	}
	return s
}

// solid gives the kids of a node that are no spaces and no remarks.
func solid(n api.Node) []int {
	var all []int
	for i, k := range n.Kids {
		if k.Kind != api.NLeaf || k.Tok != api.TSpace && k.Tok != api.TRemark {
			all = append(all, i)
		}
	}
	return all
}

// as tells what a name stands there as.
func (m mark) as() int {
	n, kid := m.in()
	switch n.Kind {
	case api.NDef:
		return api.UDef
	case api.NParams:
		return api.UParam
	case api.NLet:
		return api.ULet
	case api.NVar:
		return api.UVar
	}
	at := slices.Index(solid(n), kid)
	if n.Kids[solid(n)[0]].Text == "pub" {
		at--
	}
	return map[int]int{1: api.UModule, 3: api.UItem, 5: api.UAlias}[at]
}

// itemsOf gives the items of a file.
func (s *slow) itemsOf(file int) []slowItem {
	var all []slowItem
	for i, n := range tree.New(s.files[file].Text).Root().Kids {
		if n.Kind != api.NUse && n.Kind != api.NDef {
			continue
		}
		it := slowItem{kid: i, use: n.Kind == api.NUse}
		for _, k := range n.Kids {
			it.pub = it.pub || k.Text == "pub"
			it.as = it.as || k.Text == "as"
		}
		for _, m := range s.marks[file] {
			if m.kids[0] != i {
				continue
			}
			switch m.as() {
			case api.UDef:
				it.name = &m
			case api.UModule:
				it.module = &m
			case api.UItem:
				it.item = &m
			case api.UAlias:
				it.alias = &m
			}
		}
		if it.use && it.as {
			it.name = it.alias
		} else if it.use {
			it.name = it.item
		}
		all = append(all, it)
	}
	return all
}

// owner gives the item that has a name.
func (s *slow) owner(file int, name string) (slowItem, bool) {
	for _, it := range s.items[file] {
		if it.name != nil && it.name.text == name {
			return it, true
		}
	}
	return slowItem{}, false
}

func (s *slow) twice(file int, it slowItem) bool {
	if it.name == nil {
		return false
	}
	first, _ := s.owner(file, it.name.text)
	return first.kid != it.kid
}

// target tells what the UItem of an item stands for, and what is wrong with that.
func (s *slow) target(file int, it slowItem, came []place) (place, api.Errno) {
	nothing := place{-1, -1}
	if slices.Contains(came, place{file, it.kid}) {
		return nothing, api.ErrRing
	}
	if it.module == nil || it.item == nil {
		return nothing, api.ErrName
	}
	to := slices.IndexFunc(s.files, func(f api.File) bool { return f.Name == it.module.text })
	if to < 0 {
		return nothing, api.ErrName
	}
	other, ok := s.owner(to, it.item.text)
	if !ok {
		return nothing, api.ErrName
	}
	if !other.pub && to != file {
		return nothing, api.ErrHidden
	}
	if !other.use {
		return place{to, other.name.at}, api.OK
	}
	return s.target(to, other, append(came, place{file, it.kid}))
}

// around gives the place of the innermost name around one that is the same.
func (m mark) around(all []mark) (int, bool) {
	for i := len(m.nodes) - 1; i >= 0; i-- {
		n := m.nodes[i]
		isLast := m.kids[i] == len(n.Kids)-1
		for _, o := range all {
			if o.text != m.text || !slices.Equal(o.kids[:min(i, len(o.kids))], m.kids[:i]) {
				continue
			}
			if o.as() == api.ULet && len(o.kids) == i+1 && n.Kind == api.NLet && isLast {
				return o.at, true
			}
			if o.as() == api.UParam && len(o.kids) == i+2 && (n.Kind == api.NDef || n.Kind == api.NFun) {
				return o.at, true
			}
		}
	}
	return 0, false
}

// variable tells what an UVar stands for.
func (s *slow) variable(file int, m mark) (place, api.Errno) {
	if at, ok := m.around(s.marks[file]); ok {
		return place{file, at}, api.OK
	}
	it, ok := s.owner(file, m.text)
	if !ok {
		return place{-1, -1}, api.ErrName
	}
	if !it.use {
		return place{file, it.name.at}, api.OK
	}
	to, _ := s.target(file, it, nil)
	return to, api.OK
}

// one tells what a name stands for.
func (s *slow) one(file int, m mark) (place, api.Errno) {
	items := s.items[file]
	it := items[slices.IndexFunc(items, func(it slowItem) bool { return it.kid == m.kids[0] })]
	own, twice := place{file, m.at}, api.OK
	if s.twice(file, it) {
		twice = api.ErrTwice
	}
	switch m.as() {
	case api.UDef:
		return own, twice
	case api.UParam:
		for _, o := range s.marks[file] {
			if o.at < m.at && o.text == m.text && len(o.kids) == len(m.kids) && slices.Equal(o.kids[:len(o.kids)-1], m.kids[:len(m.kids)-1]) {
				return own, api.ErrTwice
			}
		}
		return own, api.OK
	case api.ULet:
		return own, api.OK
	case api.UModule:
		to := slices.IndexFunc(s.files, func(f api.File) bool { return f.Name == m.text })
		if to < 0 {
			return place{-1, -1}, api.ErrName
		}
		return place{to, -1}, api.OK
	case api.UItem:
		to, err := s.target(file, it, nil)
		if err == api.OK && !it.as {
			err = twice
		}
		return to, err
	case api.UAlias:
		to, _ := s.target(file, it, nil)
		return to, twice
	}
	return s.variable(file, m)
}

func (s *slow) names() []api.Use {
	var all []api.Use
	for file, some := range s.marks {
		for _, m := range some {
			to, err := s.one(file, m)
			all = append(all, api.Use{File: file, At: m.at, As: m.as(), ToFile: to.file, To: to.at, Err: err})
		}
	}
	return all
}

// dice gives numbers that look as if by chance, and are the same each time.
type dice uint64

func (d *dice) roll(n int) int {
	*d = *d*6364136223846793005 + 1442695040888963407
	return int(uint64(*d>>33) % uint64(n))
}

func (d *dice) pick(words string) string {
	all := strings.Fields(words)
	return all[d.roll(len(all))]
}

func (d *dice) name() string { return d.pick("x y z x y a b é name") }

func (d *dice) params() string {
	var all []string
	for range d.roll(4) {
		all = append(all, d.name())
	}
	return "(" + strings.Join(all, ", ") + ")"
}

func (d *dice) expression(deep int) string {
	kind := d.roll(12)
	if deep == 0 {
		kind %= 4
	}
	more := func() string { return d.expression(deep - 1) }
	switch kind {
	case 0:
		return d.pick("1 true \"s\" ? -- {--}")
	case 1, 2, 3:
		return d.name()
	case 4, 5, 6:
		return "let " + d.name() + " = " + more() + " in " + more()
	case 7:
		return "if " + more() + " then " + more() + " else " + more()
	case 8, 9:
		return "fun" + d.params() + " => " + more()
	case 10:
		return "(" + more() + ")(" + more() + ", " + more() + ")"
	}
	return "[" + more() + " " + d.pick("+ == ++ * , <") + " " + more() + "]"
}

func (d *dice) item() string {
	pub := d.pick("pub_ pub_ _")
	pub = strings.Replace(pub, "_", " ", 1)
	switch d.roll(5) {
	case 0:
		return pub + "def " + d.name() + " = " + d.expression(3) + ";\n"
	case 1:
		return pub + "def " + d.name() + d.params() + " = " + d.expression(3) + ";\n"
	case 2:
		return pub + "use " + d.pick("a b c a b c q") + "." + d.name() + ";\n"
	}
	return pub + "use " + d.pick("a b c") + "." + d.name() + " as " + d.name() + ";\n"
}

// text gives a file; some of its tokens may be lost, or stand twice.
func (d *dice) text() string {
	var out strings.Builder
	for range d.roll(6) {
		out.WriteString(d.item())
	}
	text := out.String()
	for range d.roll(4) {
		if tokens := lex.Tokens(text); len(tokens) > 0 {
			k := tokens[d.roll(len(tokens))]
			again := strings.Repeat(text[k.At:k.At+k.Len], d.roll(2)*2)
			text = text[:k.At] + again + text[k.At+k.Len:]
		}
	}
	return text
}

func TestN3AgainstTheModel(t *testing.T) {
	d := dice(6)
	seen := map[string]int{}
	for round := range 8000 {
		var all []api.File
		for i := range 1 + d.roll(3) {
			all = append(all, api.File{Name: string(rune('a' + i)), Text: d.text()})
		}
		got, err := Resolve(all)
		want := slowOf(all).names()
		if err != nil || !slices.Equal(got, want) {
			t.Fatalf("round %d: %q: %v\ngot  %s\nwant %s", round, all, err, show(all, got), show(all, want))
		}
		for _, u := range got {
			seen[strconv.Itoa(u.As)+u.Err.Error()]++
		}
	}
	for _, kind := range strings.Fields("0OK 0ErrTwice 1OK 1ErrTwice 2OK 3OK 3ErrName 4OK 4ErrName 4ErrHidden 4ErrRing 4ErrTwice 5OK 5ErrTwice 6OK 6ErrName") {
		if seen[kind] < 50 {
			t.Errorf("%s came %d times", kind, seen[kind])
		}
		delete(seen, kind)
	}
	if len(seen) > 0 {
		t.Errorf("others came: %v", seen)
	}
}

// Any bytes are a text.
func TestN3OfAnyBytes(t *testing.T) {
	d := dice(66)
	parts := []string{"use ", "pub ", "def ", "let ", "in ", "fun", "as ", "x", "y ", "a", ".", "(", ")", ",", "=", ";", " ", "\n", "\xff", "\"", "--", "{-", "-}", "=>", "if ", "[", "]", "?", "1"}
	for range 8000 {
		var all []api.File
		for i := range 1 + d.roll(2) {
			var out strings.Builder
			for range d.roll(40) {
				out.WriteString(parts[d.roll(len(parts))])
			}
			all = append(all, api.File{Name: string(rune('a' + i)), Text: out.String()})
		}
		got, err := Resolve(all)
		if want := slowOf(all).names(); err != nil || !slices.Equal(got, want) {
			t.Fatalf("%q: %v\ngot  %s\nwant %s", all, err, show(all, got), show(all, want))
		}
	}
}
