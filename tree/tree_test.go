package tree

import (
	"reflect"
	"slices"
	"strings"
	"testing"

	"amanuensis/api"
	"amanuensis/lex"
)

// told gives a node as text: a leaf as its own (a blank as `_`, a byte 10 as `|`), what is missing behind a `!`, others in brackets.
func told(n api.Node) string {
	switch n.Kind {
	case api.NLeaf:
		return strings.NewReplacer(" ", "_", "\n", "|").Replace(n.Text)
	case api.NMissing:
		return "!" + n.Text
	}
	names := []string{"File", "Use", "Def", "Junk", "Params", "Let", "If", "Fun", "Binary", "Call", "Args", "List", "Group", "Num", "Str", "Bool", "Var", "Hole"}
	all := []string{names[n.Kind-api.NFile]}
	for _, k := range n.Kids {
		all = append(all, told(k))
	}
	return "(" + strings.Join(all, " ") + ")"
}

// leavesOf gives all leaves of a node, in order.
func leavesOf(n api.Node) []api.Node {
	if n.Kind == api.NLeaf {
		return []api.Node{n}
	}
	var out []api.Node
	for _, k := range n.Kids {
		out = append(out, leavesOf(k)...)
	}
	return out
}

// checkFields tells of fields that a node of its kind does not have.
func checkFields(t *testing.T, n api.Node) {
	t.Helper()
	leaf, missing := n.Kind == api.NLeaf, n.Kind == api.NMissing
	if leaf != (n.Tok != 0) || (leaf || missing) != (n.Text != "") || (leaf || missing) && n.Kids != nil || n.Kind < api.NLeaf || n.Kind > api.NHole {
		t.Fatalf("a node %+v", n)
	}
	for _, k := range n.Kids {
		checkFields(t, k)
	}
}

// checkTree holds a tree against what a text must have.
func checkTree(t *testing.T, tree *Tree, text string) {
	t.Helper()
	root := tree.Root()
	if tree.Text() != text || Print(root) != text {
		t.Fatalf("%q: Text %q, Print %q", text, tree.Text(), Print(root))
	}
	checkFields(t, root)
	want := modelRoot(text)
	if !reflect.DeepEqual(root, want) {
		t.Fatalf("%q: %s, want %s", text, told(root), told(want))
	}
	if got, notes := tree.Notes(), modelNotes(want, 0); !slices.Equal(got, notes) {
		t.Fatalf("%q: notes %v, want %v", text, got, notes)
	}
}

// checkTold holds the trees of texts against what they should be.
func checkTold(t *testing.T, all map[string]string) {
	t.Helper()
	for text, want := range all {
		tree := New(text)
		if got := told(tree.Root()); got != "(File"+want+")" {
			t.Errorf("%q: %s, want (File%s)", text, got, want)
		}
		checkTree(t, tree, text)
	}
}

// checkExpressions does so for texts that stand as the expression of a def.
func checkExpressions(t *testing.T, all map[string]string) {
	t.Helper()
	whole := map[string]string{}
	for text, want := range all {
		whole["def f="+text+";"] = " (Def def _ f = " + want + " ;)"
	}
	checkTold(t, whole)
}

// Z1, Z4: the chapter's table.
func TestZ1Examples(t *testing.T) {
	checkTold(t, map[string]string{
		"def f(x)=g(x;": " (Def def _ f (Params ( x )) = (Call (Var g) (Args ( (Var x) !))) ;)",
		"1 use":         " (Junk 1) (Use _ use !name !. !name !;)",
	})
}

// Z1: all tokens are leaves, in order, with their kinds.
func TestZ1Leaves(t *testing.T) {
	d := dice(1)
	texts := []string{"", " ", "\n-- so", "a", "def f(x) = x; -- so\n{- so -} ", "\xff\"\n{-", "use \u00e9 . b;"}
	for range 3000 {
		texts = append(texts, d.text(d.below(20)))
	}
	for _, text := range texts {
		leaves, tokens := leavesOf(New(text).Root()), lex.Tokens(text)
		if len(leaves) != len(tokens) {
			t.Fatalf("%q: %d leaves, %d tokens", text, len(leaves), len(tokens))
		}
		for i, k := range tokens {
			if want := (api.Node{Kind: api.NLeaf, Tok: k.Kind, Text: text[k.At : k.At+k.Len]}); !reflect.DeepEqual(leaves[i], want) {
				t.Fatalf("%q: leaf %+v, want %+v", text, leaves[i], want)
			}
		}
	}
}

// Z1: spaces and remarks stand ahead of what is taken, in the same node, and where something is missing nothing is taken.
func TestZ1Spaces(t *testing.T) {
	checkTold(t, map[string]string{
		" def f = x ;":               " (Def _ def _ f _ = (Var _ x) _ ;)",
		"{--}use{--}a--\n.{--} b;\n": " (Use {--} use {--} a -- | . {--} _ b ;) |",
		"def f = g ( x , 1 ) ;":      " (Def def _ f _ = (Call (Var _ g) (Args _ ( (Var _ x) _ , (Num _ 1) _ ))) _ ;)",
		"def f = x * y ;":            " (Def def _ f _ = (Binary (Var _ x) _ * (Var _ y)) _ ;)",
		"def f ( x ) = x;":           " (Def def _ f (Params _ ( _ x _ )) _ = (Var _ x) ;)",
		"def f = ;":                  " (Def def _ f _ = !expression _ ;)",
		"def \n":                     " (Def def !name != !expression !;) _|",
	})
}

// Z1: Print writes leaves alone, of whatever is handed in.
func TestZ1Print(t *testing.T) {
	leaf := func(s string) api.Node { return api.Node{Kind: api.NLeaf, Tok: api.TName, Text: s} }
	for _, c := range []struct {
		n    api.Node
		want string
	}{
		{api.Node{}, ""}, {leaf("a"), "a"}, {api.Node{Text: "\xff\n"}, "\xff\n"},
		{api.Node{Kind: api.NMissing, Text: "name"}, ""}, {api.Node{Kind: api.NFile}, ""}, {api.Node{Kind: api.NVar, Text: "x"}, ""},
		{api.Node{Kind: api.NFile, Kids: []api.Node{leaf("a"), {Kind: api.NMissing, Text: ";"}, {Kind: api.NJunk, Kids: []api.Node{leaf("b"), leaf(" ")}}, leaf("c")}}, "ab c"},
		{api.Node{Kind: api.NLeaf, Text: "a", Kids: []api.Node{leaf("b")}}, "a"}, // a leaf has no kids, whatever it is handed in with
		{api.Node{Kind: -1, Kids: []api.Node{{Kind: 1 << 40, Kids: []api.Node{leaf("a")}}, leaf("b")}}, "ab"},
	} {
		if got := Print(c.n); got != c.want {
			t.Errorf("Print(%+v): %q, want %q", c.n, got, c.want)
		}
	}
	deep := leaf("x")
	for range 1 << 16 {
		deep = api.Node{Kind: api.NGroup, Kids: []api.Node{leaf("("), deep}}
	}
	if got := Print(deep); got != strings.Repeat("(", 1<<16)+"x" {
		t.Error("Print of many levels")
	}
}

// Z2: files: items, junk up to a `;` or ahead of an item, and what is left in the end.
func TestZ2File(t *testing.T) {
	checkTold(t, map[string]string{
		"": "", " ": " _", "--a\n{--} ": " --a | {--} _",
		";": " (Junk ;)", ";;": " (Junk ;) (Junk ;)", "a b; c": " (Junk a _ b ;) (Junk _ c)", "a ; ": " (Junk a _ ;) _", " a -- so": " (Junk _ a) _ --_so",
		"a def": " (Junk a) (Def _ def !name != !expression !;)", "a pub": " (Junk a) (Def _ pub !def !name != !expression !;)", "a use": " (Junk a) (Use _ use !name !. !name !;)",
		"as let x = 1; in": " (Junk as _ let _ x _ = _ 1 ;) (Junk _ in)", "\xff\"\n": " (Junk \xff \") |", "uses.b;": " (Junk uses . b ;)", "def f=1;2;use a.b;": " (Def def _ f = (Num 1) ;) (Junk 2 ;) (Use use _ a . b ;)",
		"{-def": " (Junk {-def)", "\"use\"": " (Junk \"use\")",
	})
}

func TestZ2Use(t *testing.T) {
	checkTold(t, map[string]string{
		"use a.b;": " (Use use _ a . b ;)", "use a.b as c;": " (Use use _ a . b _ as _ c ;)", "pub use a.b;": " (Use pub _ use _ a . b ;)",
		"use": " (Use use !name !. !name !;)", "use;": " (Use use !name !. !name ;)", "use a": " (Use use _ a !. !name !;)", "use .": " (Use use !name _ . !name !;)", "use a.;": " (Use use _ a . !name ;)",
		"use .b;": " (Use use !name _ . b ;)", "use a b;": " (Use use _ a !. _ b ;)", "use as;": " (Use use !name !. !name _ as !name ;)", "use a.b as": " (Use use _ a . b _ as !name !;)", "use a.b as as c;": " (Use use _ a . b _ as !name !;) (Junk _ as _ c ;)",
		"use a.b c;": " (Use use _ a . b !;) (Junk _ c ;)", "use a.b.c;": " (Use use _ a . b !;) (Junk . c ;)", "use use": " (Use use !name !. !name !;) (Use _ use !name !. !name !;)", "use 1;": " (Use use !name !. !name !;) (Junk _ 1 ;)",
		"use a.b as let;": " (Use use _ a . b _ as !name !;) (Junk _ let ;)", "use a.@b;": " (Use use _ a . !name !;) (Junk @ b ;)",
	})
}

func TestZ2Def(t *testing.T) {
	checkTold(t, map[string]string{
		"def f=x;": " (Def def _ f = (Var x) ;)", "pub def f=x;": " (Def pub _ def _ f = (Var x) ;)", "def f()=x;": " (Def def _ f (Params ( )) = (Var x) ;)", "def f(x,y)=x;": " (Def def _ f (Params ( x , y )) = (Var x) ;)",
		"def": " (Def def !name != !expression !;)", "def=": " (Def def !name = !expression !;)", "def f": " (Def def _ f != !expression !;)", "def f=": " (Def def _ f = !expression !;)", "def f x;": " (Def def _ f != (Var _ x) ;)", "def (x)=1;": " (Def def !name (Params _ ( x )) = (Num 1) ;)",
		"def def": " (Def def !name != !expression !;) (Def _ def !name != !expression !;)", "def f=1 def": " (Def def _ f = (Num 1) !;) (Def _ def !name != !expression !;)",
		"def f=1": " (Def def _ f = (Num 1) !;)", "def f=1 2;": " (Def def _ f = (Num 1) !;) (Junk _ 2 ;)", "def 1=1;": " (Def def !name != (Num _ 1) !;) (Junk = 1 ;)", "def use.b;": " (Def def !name != !expression !;) (Use _ use !name . b ;)", "def f==1;": " (Def def _ f != (Binary !expression == (Num 1)) ;)",
		"def f;": " (Def def _ f != !expression ;)", "def f=1;;": " (Def def _ f = (Num 1) ;) (Junk ;)", "def name=expression;": " (Def def _ name = (Var expression) ;)",
	})
}

// Z2: a `pub` alone makes a def, of which all is missing; only one `pub` is the item's.
func TestZ2Pub(t *testing.T) {
	checkTold(t, map[string]string{
		"pub": " (Def pub !def !name != !expression !;)", "pub;": " (Def pub !def !name != !expression ;)", "pub pub": " (Def pub !def !name != !expression !;) (Def _ pub !def !name != !expression !;)", "pub f=1;": " (Def pub !def _ f = (Num 1) ;)",
		"pub pub use a.b;": " (Def pub !def !name != !expression !;) (Use _ pub _ use _ a . b ;)", "pub 1": " (Def pub !def !name != (Num _ 1) !;)", "pub as": " (Def pub !def !name != !expression !;) (Junk _ as)", "pub ": " (Def pub !def !name != !expression !;) _",
	})
}

func TestZ2Params(t *testing.T) {
	checkTold(t, map[string]string{
		"def f(": " (Def def _ f (Params ( !name !)) != !expression !;)", "def f(x": " (Def def _ f (Params ( x !)) != !expression !;)", "def f(x,": " (Def def _ f (Params ( x , !name !)) != !expression !;)", "def f(,)": " (Def def _ f (Params ( !name , !name )) != !expression !;)",
		"def f(x y)=1;": " (Def def _ f (Params ( x !)) != (Var _ y) !;) (Junk ) = 1 ;)", "def f(1)=1;": " (Def def _ f (Params ( !name !)) != (Num 1) !;) (Junk ) = 1 ;)", "def f(x,)=1;": " (Def def _ f (Params ( x , !name )) = (Num 1) ;)", "def f()()=1;": " (Def def _ f (Params ( )) != (Group ( !expression )) !;) (Junk = 1 ;)",
		"def f(let)=1;": " (Def def _ f (Params ( !name !)) != (Let let !name != !expression !in !expression) !;) (Junk ) = 1 ;)",
	})
}

func TestZ2Let(t *testing.T) {
	checkExpressions(t, map[string]string{
		"let x=1 in x": "(Let let _ x = (Num 1) _ in (Var _ x))", "let x=let y=1 in y in x": "(Let let _ x = (Let let _ y = (Num 1) _ in (Var _ y)) _ in (Var _ x))", "let x=1 in x+1": "(Let let _ x = (Num 1) _ in (Binary (Var _ x) + (Num 1)))",
		"let": "(Let let !name != !expression !in !expression)", "let in": "(Let let !name != !expression _ in !expression)", "let x=1": "(Let let _ x = (Num 1) !in !expression)", "let=1 in": "(Let let !name = (Num 1) _ in !expression)", "let x 1 x": "(Let let _ x != (Num _ 1) !in (Var _ x))",
	})
}

func TestZ2If(t *testing.T) {
	checkExpressions(t, map[string]string{
		"if x then 1 else 2": "(If if (Var _ x) _ then (Num _ 1) _ else (Num _ 2))", "if if x then y else z then 1 else if x then 1 else 2": "(If if (If _ if (Var _ x) _ then (Var _ y) _ else (Var _ z)) _ then (Num _ 1) _ else (If _ if (Var _ x) _ then (Num _ 1) _ else (Num _ 2)))",
		"if": "(If if !expression !then !expression !else !expression)", "if then else": "(If if !expression _ then !expression _ else !expression)", "if x else y": "(If if (Var _ x) !then !expression _ else (Var _ y))", "if x 1 2": "(If if (Var _ x) !then (Num _ 1) !else (Num _ 2))", "if x then y": "(If if (Var _ x) _ then (Var _ y) !else !expression)",
	})
}

func TestZ2Fun(t *testing.T) {
	checkExpressions(t, map[string]string{
		"fun(x)=>x": "(Fun fun (Params ( x )) => (Var x))", "fun()=>1+1": "(Fun fun (Params ( )) => (Binary (Num 1) + (Num 1)))", "fun(x)=>fun(y)=>x": "(Fun fun (Params ( x )) => (Fun fun (Params ( y )) => (Var x)))",
		"fun": "(Fun fun (Params !( !name !)) !=> !expression)", "fun x": "(Fun fun (Params !( _ x !)) !=> !expression)", "fun x,y)=>1": "(Fun fun (Params !( _ x , y )) => (Num 1))", "fun)=>1": "(Fun fun (Params !( )) => (Num 1))", "fun(x)x": "(Fun fun (Params ( x )) !=> (Var x))", "fun=>x": "(Fun fun (Params !( !name !)) => (Var x))",
	})
}

// Z2: what belongs together first: calls, products, sums, comparisons.
func TestZ2Operators(t *testing.T) {
	checkExpressions(t, map[string]string{
		"a+b*c": "(Binary (Var a) + (Binary (Var b) * (Var c)))", "a*b+c": "(Binary (Binary (Var a) * (Var b)) + (Var c))", "a-b-c": "(Binary (Binary (Var a) - (Var b)) - (Var c))", "a++b+c": "(Binary (Binary (Var a) ++ (Var b)) + (Var c))", "a*b*c": "(Binary (Binary (Var a) * (Var b)) * (Var c))",
		"a==b+c": "(Binary (Var a) == (Binary (Var b) + (Var c)))", "a+b<c": "(Binary (Binary (Var a) + (Var b)) < (Var c))", "a*b()": "(Binary (Var a) * (Call (Var b) (Args ( ))))", "+": "(Binary !expression + !expression)", "a+": "(Binary (Var a) + !expression)", "*a": "(Binary !expression * (Var a))", "-1": "(Binary !expression - (Num 1))",
		"a==": "(Binary (Var a) == !expression)", "<": "(Binary !expression < !expression)", "a+*b": "(Binary (Var a) + (Binary !expression * (Var b)))", "a- -b": "(Binary (Binary (Var a) - !expression) _ - (Var b))", "a*if x then y else z": "(Binary (Var a) * !expression) !;) (Junk if _ x _ then _ y _ else _ z",
	})
	checkTold(t, map[string]string{
		"def f=a==b==c;": " (Def def _ f = (Binary (Var a) == (Var b)) !;) (Junk == c ;)", "def f=a<b==c;": " (Def def _ f = (Binary (Var a) < (Var b)) !;) (Junk == c ;)", "def f=a<=b;": " (Def def _ f = (Binary (Var a) < !expression) !;) (Junk = b ;)", "def f=a+let x=1 in x;": " (Def def _ f = (Binary (Var a) + !expression) !;) (Junk let _ x = 1 _ in _ x ;)",
	})
}

func TestZ2Calls(t *testing.T) {
	checkExpressions(t, map[string]string{
		"f()": "(Call (Var f) (Args ( )))", "f(x)(y)": "(Call (Call (Var f) (Args ( (Var x) ))) (Args ( (Var y) )))", "f(x,1+1)": "(Call (Var f) (Args ( (Var x) , (Binary (Num 1) + (Num 1)) )))", "(f)(x)": "(Call (Group ( (Var f) )) (Args ( (Var x) )))", "1(2)": "(Call (Num 1) (Args ( (Num 2) )))", "[]()": "(Call (List [ ]) (Args ( )))",
		"f(": "(Call (Var f) (Args ( !expression !)))", "f(,)": "(Call (Var f) (Args ( !expression , !expression )))", "f(x,": "(Call (Var f) (Args ( (Var x) , !expression !)))", "f(let x=1 in x)": "(Call (Var f) (Args ( (Let let _ x = (Num 1) _ in (Var _ x)) )))", "?(x)": "(Call (Hole ?) (Args ( (Var x) )))", "\"\"()": "(Call (Str \"\") (Args ( )))",
	})
}

func TestZ2Parts(t *testing.T) {
	checkExpressions(t, map[string]string{
		"1": "(Num 1)", "\"a\"": "(Str \"a\")", "true": "(Bool true)", "false": "(Bool false)", "x": "(Var x)", "?": "(Hole ?)", "(x)": "(Group ( (Var x) ))", "[]": "(List [ ])", "[1]": "(List [ (Num 1) ])", "[1,x]": "(List [ (Num 1) , (Var x) ])", "[[],[1]]": "(List [ (List [ ]) , (List [ (Num 1) ]) ])", "(if x then 1 else 2)": "(Group ( (If if (Var _ x) _ then (Num _ 1) _ else (Num _ 2)) ))",
		"": "!expression", "(": "(Group ( !expression !))", "()": "(Group ( !expression ))", "[": "(List [ !expression !])", "[,": "(List [ !expression , !expression !])", "[1,]": "(List [ (Num 1) , !expression ])", "[1 2]": "(List [ (Num 1) !]) !;) (Junk _ 2 ]", "(1": "(Group ( (Num 1) !))", "{--}=>": "!expression !;) (Junk {--} =>", "@": "!expression !;) (Junk @", "then": "!expression !;) (Junk then", "\"\\q\"": "!expression !;) (Junk \"\\q\"", "1234567890123456789": "!expression !;) (Junk 1234567890123456789",
	})
}

// Z2, Z4: of many texts: as a model has it.
func TestZ2Model(t *testing.T) {
	d := dice(2)
	for range 20000 {
		text := d.text(d.below(25))
		checkTree(t, New(text), text)
	}
	for range 2000 {
		text := d.good(d.below(6))
		tree := New(text)
		checkTree(t, tree, text)
		if notes := tree.Notes(); len(notes) > 0 {
			t.Fatalf("%q: notes %v", text, notes)
		}
	}
}

// Z2: whatever stands ahead of whatever.
func TestZ2Pairs(t *testing.T) {
	for _, first := range []string{"", "def f(x)=", "use a.b", "pub ", "def f=let x=1 in ", "def f=[1,"} {
		for _, a := range words() {
			for _, b := range words() {
				text := first + a + " " + b
				checkTree(t, New(text), text)
			}
		}
	}
}
