package syntax

import (
	"fmt"
	"reflect"
	"strings"
	"testing"

	"amanuensis/api"
	"amanuensis/tree"
)

// name as text: with where it begins, or `_`, if it is missing.
func showName(n Name) string {
	if n.Missing() {
		return "_"
	}
	return fmt.Sprint(n.Text, "@", n.At)
}

func showParams(p *Params) string {
	if p == nil {
		return "none"
	}
	var all []string
	for _, n := range p.Names {
		all = append(all, showName(n))
	}
	return "(" + strings.Join(all, " ") + ")"
}

func showAll(all []Expression) string {
	var out []string
	for _, e := range all {
		out = append(out, show(e))
	}
	return strings.Join(out, " ")
}

func show(e Expression) string {
	switch e := e.(type) {
	case *Literal:
		return fmt.Sprint(e.Kind, "`", e.Text, "`")
	case *Hole:
		return fmt.Sprint("?@", e.From)
	case *Missing:
		return "_"
	case *Var:
		return showName(e.Name)
	case *Let:
		return "(let " + showName(e.Name) + " " + show(e.Value) + " " + show(e.Body) + ")"
	case *If:
		return "(if " + showAll([]Expression{e.Test, e.Then, e.Else}) + ")"
	case *Fun:
		return "(fun " + showParams(e.Params) + " " + show(e.Body) + ")"
	case *Binary:
		return "(" + e.Sign + " " + show(e.Left) + " " + show(e.Right) + ")"
	case *Call:
		return "(call " + showAll(append([]Expression{e.Called}, e.Args...)) + ")"
	case *List:
		return "[" + showAll(e.All) + "]"
	case *Group:
		return "<" + show(e.Inner) + ">"
	}
	return fmt.Sprintf("%T?", e)
}

func showItems(text string) string {
	var all []string
	for _, item := range Read(tree.New(text)) {
		switch i := item.(type) {
		case *Use:
			all = append(all, fmt.Sprint("use ", i.Pub, " ", showName(i.Module), " ", showName(i.Item), " ", i.As, " ", showName(i.Alias)))
		case *Def:
			all = append(all, fmt.Sprint("def ", i.Pub, " ", showName(i.Name), " ", showParams(i.Params), " ", show(i.Body)))
		}
	}
	return strings.Join(all, "; ")
}

func TestItems(t *testing.T) {
	for _, c := range [][2]string{
		{"", ""},
		{" -- so", ""},
		{"1 2; )", ""},
		{"use b.x;", "use false b@4 x@6 false _"},
		{"pub use b.x as y;", "use true b@8 x@10 true y@15"},
		{" {- -} pub\nuse b . x --\nas {--} y", "use true b@15 x@19 true y@32"},
		{"use", "use false _ _ false _"},
		{"use x;", "use false x@4 _ false _"},
		{"use .x;", "use false _ x@5 false _"},
		{"use b x;", "use false b@4 x@6 false _"},
		{"use b. as y;", "use false b@4 _ true y@10"},
		{"use b.x as;", "use false b@4 x@6 true _"},
		{"use as y;", "use false _ _ true y@7"},
		{"pub", "def true _ none _"},
		{"pub x = 1;", "def true x@4 none 15`1`"},
		{"def f = 1;", "def false f@4 none 15`1`"},
		{"def f() = 1;", "def false f@4 () 15`1`"},
		{"def f(x, y) = 1;", "def false f@4 (x@6 y@9) 15`1`"},
		{"def f(x, , y) = 1;", "def false f@4 (x@6 _ y@11) 15`1`"},
		{"def (", "def false _ (_) _"},
		{"def f(x y) = 1; z use b.c;", "def false f@4 (x@6) y@8; use false b@22 c@24 false _"},
		{"1; def f = 2; é? ; def g = 3;", "def false f@7 none 15`2`; def false g@24 none 15`3`"},
		{"def name = name; def expression(name) = ;", "def false name@4 none name@11; def false expression@21 (name@32) _"},
	} {
		if got := showItems(c[0]); got != c[1] {
			t.Errorf("%q: got %s, want %s", c[0], got, c[1])
		}
	}
}

func TestExpressions(t *testing.T) {
	for _, c := range [][2]string{
		{"12", "15`12`"},
		{` "a\n"`, "16`\"a\\n\"`"},
		{"{--} true", "17`true`"},
		{"false", "17`false`"},
		{" ?", "?@5"},
		{"--\n\nx", "x@8"},
		{"", "_"},
		{"(1)", "<15`1`>"},
		{"(", "<_>"},
		{"[]", "[]"},
		{"[1, , x", "[15`1` _ x@10]"},
		{"f()", "(call f@4)"},
		{"f(x)(1, y)", "(call (call f@4 x@6) 15`1` y@12)"},
		{"f(", "(call f@4 _)"},
		{"1+x*2", "(+ 15`1` (* x@6 15`2`))"},
		{"1-2 ++ 3==a<", "(== (++ (- 15`1` 15`2`) 15`3`) a@14)"},
		{"x==", "(== x@4 _)"},
		{"if x then y else z", "(if x@7 y@14 z@21)"},
		{"if then y else", "(if _ y@12 _)"},
		{"if", "(if _ _ _)"},
		{"let x = 1 in x", "(let x@8 15`1` x@17)"},
		{"let = 1 in x", "(let _ 15`1` x@15)"},
		{"let", "(let _ _ _)"},
		{"fun(x) => x", "(fun (x@8) x@14)"},
		{"fun => x", "(fun (_) x@11)"},
		{"fun() => fun(y, y) => [y, (if 1 then 2 else let z = ? in z)(y)]", "(fun () (fun (y@17 y@20) [y@27 (call <(if 15`1` 15`2` (let z@52 ?@56 z@61))> y@64)]))"},
	} {
		text := "def=" + c[0]
		if got, want := showItems(text), "def false _ none "+c[1]; got != want {
			t.Errorf("%q: got %s, want %s", text, got, want)
		}
	}
}

func TestTooDeep(t *testing.T) {
	text := "def=" + strings.Repeat("(", api.MaxNest+1) + "x"
	want := strings.Repeat("<", api.MaxNest) + "<_" + strings.Repeat(">", api.MaxNest+1)
	if got := showItems(text); got != "def false _ none "+want {
		t.Errorf("got %s", got)
	}
}

func TestCalled(t *testing.T) {
	items := Read(tree.New("use b.x; pub use b.x as y; use b.x as; def f=1; pub def(y)=2;"))
	want := []string{"x@6 false", "y@24 true", "_ false", "f@43 false", "_ true"}
	for i, item := range items {
		if got := fmt.Sprint(showName(item.Called()), " ", item.Shown()); got != want[i] {
			t.Errorf("item %d: got %s, want %s", i, got, want[i])
		}
	}
	if len(items) != len(want) {
		t.Errorf("%d items", len(items))
	}
}

func TestParts(t *testing.T) {
	a, b, c := &Var{Name: Name{"a", 1}}, &Hole{}, &Literal{Kind: api.NNum, Text: "3"}
	params := &Params{[]Name{{"x", 0}}}
	for _, e := range []struct {
		of   Expression
		want []Expression
	}{
		{a, nil}, {b, nil}, {c, nil}, {&Missing{}, nil},
		{&Let{Value: a, Body: b}, []Expression{a, b}},
		{&If{Test: a, Then: b, Else: c}, []Expression{a, b, c}},
		{&Fun{Params: params, Body: a}, []Expression{a}},
		{&Binary{Left: a, Sign: "+", Right: b}, []Expression{a, b}},
		{&Call{Called: a, Args: []Expression{b, c}}, []Expression{a, b, c}},
		{&List{All: []Expression{a, c}}, []Expression{a, c}},
		{&List{}, nil},
		{&Group{Inner: c}, []Expression{c}},
	} {
		if got := e.of.Parts(); len(got) != len(e.want) || len(got) > 0 && !reflect.DeepEqual(got, e.want) {
			t.Errorf("%s: got %s, want %s", show(e.of), showAll(got), showAll(e.want))
		}
	}
}

func TestPartsAreFresh(t *testing.T) {
	l := &List{All: append(make([]Expression, 0, 4), &Missing{})}
	l.Parts()[0] = &Hole{}
	if show(l) != "[_]" {
		t.Errorf("the list has become %s", show(l))
	}
}

// A place behind all that can stand ahead of it: a name that is not counted right would move it.
func TestPlacesGoOn(t *testing.T) {
	ahead := "1;use b.x as y;{--}use;pub use c . d ;def f(x,,y)=let a=if 1 then ? else fun(z)=>[z,(z),z+1](f(x),)in a;def=\"é\";)"
	items := Read(tree.New(ahead + " def end = 1;"))
	if got, want := items[len(items)-1].Called(), (Name{"end", len(ahead) + 5}); got != want {
		t.Errorf("got %v, want %v", got, want)
	}
}

// Where a def stands: from its first token that is no space and no remark to its last one.
func TestWhereDefsStand(t *testing.T) {
	for _, c := range []struct{ text, want string }{
		{"def x = 1;", "def x = 1;"},
		{" -- so\n def x = 1 ; ", "def x = 1 ;"},
		{"{--}pub  def x = 1; def y = 2;", "pub  def x = 1;|def y = 2;"},
		{"é pub{--} x = 1  use a.b; def", "pub{--} x = 1|def"},
		{"def f(é) = (é -- so\n y", "def f(é) = (é"},
		{"pub", "pub"},
		{"use a.b; x;", ""},
	} {
		var got []string
		for _, item := range Read(tree.New(c.text)) {
			if d, ok := item.(*Def); ok {
				got = append(got, c.text[d.From:d.To])
			}
		}
		if strings.Join(got, "|") != c.want {
			t.Errorf("%q: %q, want %q", c.text, got, c.want)
		}
	}
}

// pieces gives the texts of an expression and of all in it, from the outermost on, with a `!` ahead where something is missing in it, or a `?` stands.
func pieces(text string, e Expression) []string {
	x := e.Place()
	piece := text[x.From:x.To]
	if x.Gaps {
		piece = "!" + piece
	}
	all := []string{piece}
	for _, p := range e.Parts() {
		all = append(all, pieces(text, p)...)
	}
	return all
}

// Where expressions stand: from the first token that is no space and no remark to the last one, and whether they have gaps.
func TestWhereExpressionsStand(t *testing.T) {
	for _, c := range []struct{ text, want string }{
		{" 12 ", "12"},
		{"{--}\"é\" -- so\n", `"é"`},
		{"", "!"},
		{" ? ", "!?"},
		{" a + {--}b * c ;", "a + {--}b * c|a|b * c|b|c"},
		{" 1 - 2 - 3 == 4", "1 - 2 - 3 == 4|1 - 2 - 3|1 - 2|1|2|3|4"},
		{" + 1;", "!+ 1|!|1"},
		{" 1 + ;", "!1 +|1|!"},
		{" f ( x , (y) ) ( ) ", "f ( x , (y) ) ( )|f ( x , (y) )|f|x|(y)|y"},
		{" f(1, ;", "!f(1,|f|1|!"},
		{" [ 1 , [ ] ", "![ 1 , [ ]|1|[ ]"},
		{" let x -- so\n= 1 in x ", "let x -- so\n= 1 in x|1|x"},
		{" let = 1 in x ", "!let = 1 in x|1|x"},
		{" let x 1 x ", "!let x 1 x|1|x"},
		{" if a then b else ( fun ( x , ) => ? ) ", "!if a then b else ( fun ( x , ) => ? )|a|b|!( fun ( x , ) => ? )|!fun ( x , ) => ?|!?"},
		{" [ (a + ) , fun(x) => x ]", "![ (a + ) , fun(x) => x ]|!(a + )|!a +|a|!|fun(x) => x|x"},
		{" if", "!if|!|!|!"},
	} {
		for _, ahead := range []string{"def=", "1; use a.b; pub def f(x, ) {--} =", "def = ? + ;\ndef f ="} {
			text := ahead + c.text
			items := Read(tree.New(text))
			d, ok := items[len(items)-1].(*Def)
			if !ok {
				t.Fatalf("%q: no def", text)
			}
			if got := strings.Join(pieces(text, d.Body), "|"); got != c.want {
				t.Errorf("%q: %s, want %s", text, got, c.want)
			}
		}
	}
}

func TestFiles(t *testing.T) {
	files := Files([]api.File{{Name: "a", Text: "def x = 1;"}, {Name: "b"}, {Name: "c", Text: "use a.x; def y = x;"}})
	if len(files) != 3 || files[0].Name != "a" || files[1].Name != "b" || files[2].Name != "c" {
		t.Fatalf("%v", files)
	}
	if len(files[0].Items) != 1 || len(files[1].Items) != 0 || len(files[2].Items) != 2 || files[2].Items[1].Called() != (Name{"y", 13}) {
		t.Errorf("%v", files)
	}
}

// defOf gives the first def of a text.
func defOf(t *testing.T, text string) *Def {
	t.Helper()
	d, ok := Read(tree.New(text))[0].(*Def)
	if !ok {
		t.Fatalf("%q: no def", text)
	}
	return d
}

// Ways to each piece of a text: the expressions in which it stands, and the names around the last of them.
func TestWays(t *testing.T) {
	text := "def f(x, , y) = let a = fun(b, b) => [a, b1] in (let = 2 in c) + fun() => let d = 7 in g(d, e);"
	for _, c := range []struct{ piece, way, around string }{
		{"def", "", ""},
		{"x", "", ""},
		{"let", "*syntax.Let", "x y"},
		{"a = fun", "*syntax.Let", "x y"},
		{"fun(b", "*syntax.Let *syntax.Fun", "x y"},
		{"b, b", "*syntax.Let *syntax.Fun", "x y"},
		{"a, ", "*syntax.Let *syntax.Fun *syntax.List", "x y b b"},
		{"b1", "*syntax.Let *syntax.Fun *syntax.List *syntax.Var", "x y b b"},
		{"1", "*syntax.Let *syntax.Fun *syntax.List *syntax.Var", "x y b b"},
		{"] in", "*syntax.Let", "x y"},
		{"2", "*syntax.Let *syntax.Binary *syntax.Group *syntax.Let *syntax.Literal", "x y a"},
		{"c", "*syntax.Let *syntax.Binary *syntax.Group *syntax.Let *syntax.Var", "x y a"},
		{"+", "*syntax.Let *syntax.Binary", "x y a"},
		{";", "", ""},
	} {
		d := defOf(t, text)
		from := strings.Index(text, c.piece)
		way := d.Way(from, from+len(c.piece))
		var kinds []string
		for _, e := range way {
			kinds = append(kinds, fmt.Sprintf("%T", e))
		}
		if got := strings.Join(kinds, " "); got != c.way {
			t.Errorf("%q: %s, want %s", c.piece, got, c.way)
		}
		if len(way) == 0 {
			continue
		}
		var names []string
		for _, n := range d.Around(way) {
			names = append(names, n.Text)
		}
		if got := strings.Join(names, " "); got != c.around {
			t.Errorf("%q: around it %s, want %s", c.piece, got, c.around)
		}
	}
}

// Who asks what is around changes nothing thereby.
func TestAroundIsFresh(t *testing.T) {
	d := defOf(t, "def f(, x, y) = z;")
	d.Around(d.Way(16, 17))[0].Text = "other"
	if got := d.Params.Names; len(got) != 3 || !got[0].Missing() || got[1].Text != "x" || got[2].Text != "y" {
		t.Errorf("%v", got)
	}
}

func TestParamsAt(t *testing.T) {
	d := defOf(t, "def f(, xx, y) = z;")
	for at := range 18 {
		want := map[int]string{8: "xx", 12: "y"}[at]
		got := d.Params.At(at)
		if (got == nil) != (want == "") || got != nil && got.Text != want {
			t.Errorf("at %d: %v, want %q", at, got, want)
		}
	}
	d.Params.At(8).Text = "z"
	if d.Params.Names[1] != (Name{"z", 8}) {
		t.Errorf("%v", d.Params.Names)
	}
}
