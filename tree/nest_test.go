package tree

import (
	"strings"
	"testing"

	"amanuensis/api"
)

// levels are all ways in which an expression stands one level deeper: what is ahead of it, and behind.
func levels() [][2]string {
	return [][2]string{
		{"let a=", " in 1"}, {"let a=1 in ", ""}, {"if ", " then 1 else 2"}, {"if 1 then ", " else 2"}, {"if 1 then 2 else ", ""}, {"fun()=>", ""},
		{"f(", ")"}, {"f(1,", ",2)"}, {"(", ")"}, {"[", "]"}, {"[1,", ",2]"}, {"1+(", ")*2"}, {"f()(", ")()"}, {"(1)==[", "]"},
	}
}

// deepest gives in how many nodes that count a node with this text, or of this kind, stands in a node at most; -1, if none does.
func deepest(n api.Node, is func(api.Node) bool) int {
	most := -1
	if is(n) {
		most = 0
	}
	for _, k := range n.Kids {
		if d := deepest(k, is); d >= 0 {
			switch n.Kind {
			case api.NLet, api.NIf, api.NFun, api.NArgs, api.NGroup, api.NList:
				d++
			}
			most = max(most, d)
		}
	}
	return most
}

func isX(n api.Node) bool { return n.Kind == api.NVar && strings.TrimSpace(Print(n)) == "x" }

func isHole(n api.Node) bool { return n.Kind == api.NMissing && n.Text == "expression" }

// checkNest reads an expression that stands so deep, and tells of it if 64 levels are not read, or 65 are.
func checkNest(t *testing.T, expression string, deep int) {
	t.Helper()
	text := "def f(x) = " + expression + "; def g = x;"
	tree := New(text)
	checkTree(t, tree, text)
	root := tree.Root()
	first, last := root.Kids[0], root.Kids[len(root.Kids)-1]
	if told(last) != "(Def _ def _ g _ = (Var _ x) ;)" {
		t.Errorf("behind %d levels: %s", deep, told(last))
	}
	x, hole := deepest(first, isX), deepest(first, isHole)
	if deep <= 64 && (x != deep || hole != -1 || len(tree.Notes()) > 0 || len(root.Kids) != 2) {
		t.Errorf("%d levels: x in %d, missing in %d: %q", deep, x, hole, text)
	}
	if deep > 64 && (x > 64 || hole != 65 || len(tree.Notes()) == 0) {
		t.Errorf("%d levels: x in %d, missing in %d: %q", deep, x, hole, text)
	}
}

// Z2: an expression in 64 of those that count is read, in 65 it is missing.
func TestZ2Nest(t *testing.T) {
	for _, w := range levels() {
		for _, deep := range []int{1, 63, 64, 65, 66, 200} {
			checkNest(t, strings.Repeat(w[0], deep)+"x"+strings.Repeat(w[1], deep), deep)
		}
	}
	d := dice(5)
	for range 300 {
		expression, deep := "x", 62+d.below(6)
		for range deep {
			w := levels()[d.below(len(levels()))]
			expression = w[0] + expression + w[1]
		}
		checkNest(t, expression, deep)
	}
}

// Z2: what stands deeper is not taken, and what is open is closed nowhere.
func TestZ2NestOpen(t *testing.T) {
	tree := New("def f=" + strings.Repeat("[", 65) + "1;")
	want := "(Def def _ f = " + strings.Repeat("(List [ ", 65) + "!expression" + strings.Repeat(" !])", 65) + " !;)"
	if got := told(tree.Root().Kids[0]); got != want {
		t.Errorf("65 open lists: %s", got)
	}
	if got := told(tree.Root().Kids[1]); got != "(Junk 1 ;)" {
		t.Errorf("behind 65 open lists: %s", got)
	}
	if got := len(tree.Notes()); got != 65+1+1+1 {
		t.Errorf("65 open lists: %d notes", got)
	}
	tree = New("def f=" + strings.Repeat("[", 64) + "1;")
	want = "(Def def _ f = " + strings.Repeat("(List [ ", 64) + "(Num 1)" + strings.Repeat(" !])", 64) + " ;)"
	if got := told(tree.Root().Kids[0]); got != want {
		t.Errorf("64 open lists: %s", got)
	}
	for _, open := range []string{"(", "[", "f(", "let ", "if ", "fun ", "fun(x)=>", "let x="} {
		for _, count := range []int{63, 64, 65, 66, 1000} {
			text := "def f=" + strings.Repeat(open, count) + ";def g=1;"
			checkTree(t, New(text), text)
		}
	}
}

// Z2: rows, calls of calls, and parts side by side are of one level, however long.
func TestZ2Long(t *testing.T) {
	for _, text := range []string{
		"def f=1" + strings.Repeat("+1", 3000) + ";", "def f=1" + strings.Repeat("*1", 3000) + ";", "def f=f" + strings.Repeat("()", 3000) + ";", "def f=[" + strings.Repeat("[],", 3000) + "1];",
		"def f(" + strings.Repeat("x,", 3000) + "y)=1;", strings.Repeat("def f = ((x));\n", 500), strings.Repeat("fun(x)=>(", 500),
	} {
		tree := New(text)
		if got := tree.Root(); Print(got) != text || !strings.HasPrefix(text, "fun") && len(tree.Notes()) > 0 {
			t.Errorf("%.30q: notes %v", text, tree.Notes())
		}
	}
	const far = 1<<16 - 10
	text := "def f=1" + strings.Repeat("-1", far) + "@"
	tree := New(text)
	if notes := tree.Notes(); Print(tree.Root()) != text || len(notes) != 3 || notes[0].At != len(text)-1 {
		t.Errorf("a row of %d: %v", far, notes)
	}
}
