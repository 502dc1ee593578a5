package offer

import (
	"slices"
	"strings"
	"testing"

	"amanuensis/api"
	"amanuensis/infer"
	"amanuensis/lex"
	"amanuensis/scope"
	"amanuensis/tree"
)

// leaf is a token of a tree, with the nodes that it stands in, from the outermost on, and by which kid of each.
type leaf struct {
	api.Node
	at    int
	nodes []api.Node
	kids  []int
}

// leaves gives all of a node.
func leaves(n api.Node, at int, nodes []api.Node, kids []int) (all []leaf) {
	if n.Kind == api.NLeaf {
		return []leaf{{n, at, slices.Clone(nodes), slices.Clone(kids)}}
	}
	for i, k := range n.Kids {
		all = append(all, leaves(k, at, append(nodes, n), append(kids, i))...)
		at += len(tree.Print(k))
	}
	return all
}

// slow answers as the chapter tells it, without care for time: each name is put in, and all types are found anew.
type slow struct {
	files []api.File
	names []api.Use
	file  int
	all   []leaf // of the file
}

// hole gives the `?` of an NHole that begins at a place, and where its def is named.
func (s *slow) hole(at int) (leaf, int, bool) {
	for _, l := range s.all {
		if l.at != at || l.Text != "?" || l.nodes[1].Kind != api.NDef || l.nodes[len(l.nodes)-1].Kind != api.NHole {
			continue
		}
		for _, o := range s.all {
			if o.Tok == api.TName && len(o.nodes) == 2 && o.kids[0] == l.kids[0] {
				return l, o.at, true
			}
		}
	}
	return leaf{}, 0, false
}

// around gives what is named by each NParams and `let` around a `?`.
func (l leaf) around() (all []string) {
	for i, n := range l.nodes {
		for _, kid := range n.Kids[:l.kids[i]] {
			if n.Kind == api.NLet && l.kids[i] == len(n.Kids)-1 && kid.Tok == api.TName {
				all = append(all, kid.Text)
			}
			for _, name := range kid.Kids {
				if kid.Kind == api.NParams && name.Tok == api.TName {
					all = append(all, name.Text)
				}
			}
		}
	}
	return all
}

// use gives the name by which an NUse is known, which is empty if that is missing, and whether its UItem stands for something.
func (s *slow) use(kid int) (name string, stands bool) {
	as := slices.ContainsFunc(s.all, func(l leaf) bool { return l.kids[0] == kid && l.Text == "as" })
	for _, l := range s.all {
		i := slices.IndexFunc(s.names, func(u api.Use) bool { return u.File == s.file && u.At == l.at })
		if l.kids[0] != kid || i < 0 {
			continue
		}
		u := s.names[i]
		if u.As == api.UItem {
			stands = u.To >= 0
		}
		if u.As == api.UItem && !as || u.As == api.UAlias {
			name = l.Text
		}
	}
	return name, stands
}

// items gives the names that items have, of an NUse only if its UItem stands for something.
func (s *slow) items() (all []string) {
	var had []string
	for kid, n := range tree.New(s.files[s.file].Text).Root().Kids {
		name, stands := "", false
		if n.Kind == api.NDef {
			for _, k := range n.Kids {
				if k.Tok == api.TName {
					name, stands = k.Text, true
				}
			}
		}
		if n.Kind == api.NUse {
			name, stands = s.use(kid)
		}
		if name != "" && stands && !slices.Contains(had, name) {
			all = append(all, name)
		}
		had = append(had, name)
	}
	return all
}

// typed tells whether a def of files has a type.
func typed(files []api.File, file, at int) bool {
	types, _ := infer.Types(files)
	return slices.ContainsFunc(types, func(t api.Typed) bool { return t.File == file && t.At == at && !t.Hole && t.Type != "" })
}

// complete answers, and tells how many names there were to be offered.
func complete(files []api.File, file, at int) ([]string, int, error) {
	names, err := scope.Resolve(files)
	if err != nil {
		return nil, 0, err
	}
	if file < 0 || file >= len(files) {
		return nil, 0, api.ErrRange
	}
	s := &slow{files, names, file, leaves(tree.New(files[file].Text).Root(), 0, nil, nil)}
	l, def, ok := s.hole(at)
	if !ok {
		return nil, 0, api.ErrRange
	}
	if !typed(files, file, def) {
		return nil, 0, api.ErrType
	}
	all := append(l.around(), s.items()...)
	slices.Sort(all)
	all = slices.Compact(all)
	var fit []string
	for _, name := range all {
		other := slices.Clone(files)
		other[file].Text = files[file].Text[:at] + " " + name + " " + files[file].Text[at+1:]
		if len(other[file].Text) <= api.MaxFile && typed(other, file, def) {
			fit = append(fit, name)
		}
	}
	return fit, len(all), nil
}

// dice gives numbers that look as if by chance, and are the same each time.
type dice uint64

func (d *dice) roll(n int) int {
	*d = *d*6364136223846793005 + 1442695040888963407
	return int(uint64(*d>>33) % uint64(n))
}

func (d *dice) pick(words string) string {
	all := strings.Fields(words)
	return all[d.roll(len(all))]
}

func (d *dice) name() string { return d.pick("x y z f g h é f g") }

// named gives what should be a name.
func (d *dice) named() string { return d.pick("x y z f g h é x y z f g h é ?") }

func (d *dice) params() string {
	var all []string
	for range d.roll(3) {
		all = append(all, d.named())
	}
	return "(" + strings.Join(all, ",") + ")"
}

func (d *dice) expression(deep int) string {
	kind := d.roll(14)
	if deep == 0 {
		kind %= 5
	}
	more := func() string { return d.expression(deep - 1) }
	switch kind {
	case 0:
		return d.pick("1 true \"s\" []")
	case 1, 2:
		return d.name()
	case 3, 4:
		return "?"
	case 5, 6:
		return "let " + d.named() + " = " + more() + " in " + more()
	case 7:
		return "if " + more() + " then " + more() + " else " + more()
	case 8:
		return "fun" + d.params() + " => " + more()
	case 9, 10:
		return d.name() + "(" + more() + ")"
	case 11:
		return "[" + more() + ", " + more() + "]"
	case 12:
		return "(" + more() + ")"
	}
	return more() + d.pick("+ == ++ < *") + more()
}

func (d *dice) item() string {
	pub := d.pick("pub pub _")
	pub = strings.ReplaceAll(pub, "_", "") + " "
	switch d.roll(8) {
	case 0:
		return pub + "use " + d.pick("a b c") + "." + d.name() + ";"
	case 1:
		return pub + "use " + d.pick("a b c q") + "." + d.name() + " as " + d.name() + ";"
	case 2, 3, 4:
		return pub + "def " + d.name() + d.params() + " = " + d.expression(3) + ";"
	}
	return pub + "def " + d.name() + " = " + d.expression(2) + ";"
}

// text gives a file; some of its tokens may be lost, or be others.
func (d *dice) text() string {
	var out strings.Builder
	for range 1 + d.roll(6) {
		out.WriteString(d.item())
	}
	text := out.String()
	for range max(0, d.roll(5)-2) {
		if tokens := lex.Tokens(text); len(tokens) > 0 {
			k := tokens[d.roll(len(tokens))]
			text = text[:k.At] + strings.ReplaceAll(d.pick("_ _ ? ? let let? fun? (? (?, def , x = == ( ; $"), "_", "") + text[k.At+k.Len:]
		}
	}
	return text
}

// isNamed tells whether a name that is put somewhere names something there.
func isNamed(files []api.File, file, at int) bool {
	other := slices.Clone(files)
	other[file].Text = files[file].Text[:at] + " x " + files[file].Text[at+1:]
	names, _ := scope.Resolve(other)
	return slices.ContainsFunc(names, func(u api.Use) bool { return u.File == file && u.At == at+1 && u.As != api.UVar })
}

func TestO1AgainstTheModel(t *testing.T) {
	d := dice(12)
	seen := map[string]int{}
	for range 1000 {
		var texts []string
		for range 1 + d.roll(3) {
			texts = append(texts, d.text())
		}
		files := filesOf(texts...)
		for file, f := range files {
			for at := range len(f.Text) {
				if f.Text[at] != '?' && d.roll(40) > 0 {
					continue
				}
				got, err := Complete(files, file, at)
				want, count, wrong := complete(files, file, at)
				if !slices.Equal(got, want) || err != wrong {
					t.Fatalf("%q, file %d, at %d: %q, %v, want %q, %v", texts, file, at, got, err, want, wrong)
				}
				seen[number(t, err).Error()]++
				if err == nil {
					seen["offered"] += len(got)
					seen["not offered"] += count - len(got)
					if isNamed(files, file, at) {
						seen["named"]++
						seen["named, not offered"] += count - len(got)
					}
				}
			}
		}
	}
	t.Log(seen)
	for kind, least := range map[string]int{"OK": 2000, "ErrRange": 3000, "ErrType": 700, "offered": 5000, "not offered": 1000, "named": 200, "named, not offered": 50} {
		if seen[kind] < least {
			t.Errorf("%s came %d times", kind, seen[kind])
		}
	}
}
