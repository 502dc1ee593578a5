package tree

import (
	"slices"
	"strings"

	"amanuensis/api"
	"amanuensis/lex"
)

// step is a token with the spaces and remarks ahead of it.
type step struct {
	leaves []api.Node
	kind   int
	word   string
}

// steps gives those of a text, and the spaces and remarks that are left in the end.
func steps(text string) ([]step, []api.Node) {
	var all []step
	var leaves []api.Node
	for _, t := range lex.Tokens(text) {
		word := text[t.At : t.At+t.Len]
		leaves = append(leaves, api.Node{Kind: api.NLeaf, Tok: t.Kind, Text: word})
		if t.Kind != api.TSpace && t.Kind != api.TRemark {
			all = append(all, step{leaves, t.Kind, word})
			leaves = nil
		}
	}
	return all, leaves
}

// model reads a text as the chapter tells it, without care for time: each function gives the nodes that it made, and the steps that are left.
type model func(in []step, deep int) ([]api.Node, []step)

func modelNext(in []step, words string) bool {
	return len(in) > 0 && slices.Contains(strings.Fields(words), in[0].word)
}

func modelMissing(what string) []api.Node { return []api.Node{{Kind: api.NMissing, Text: what}} }

// modelTake takes whatever is next.
func modelTake(in []step, _ int) ([]api.Node, []step) { return in[0].leaves, in[1:] }

// modelWant takes a sign or a word; `name` means a TName.
func modelWant(what string) model {
	return func(in []step, _ int) ([]api.Node, []step) {
		if len(in) > 0 && (what == "name" && in[0].kind == api.TName || what != "name" && in[0].word == what) {
			return in[0].leaves, in[1:]
		}
		return modelMissing(what), in
	}
}

// modelWants takes several of these.
func modelWants(words string) model {
	var all []model
	for _, w := range strings.Fields(words) {
		all = append(all, modelWant(w))
	}
	return modelAll(all...)
}

// modelAll reads one thing behind the other.
func modelAll(all ...model) model {
	return func(in []step, deep int) ([]api.Node, []step) {
		var out []api.Node
		for _, m := range all {
			var got []api.Node
			got, in = m(in, deep)
			out = append(out, got...)
		}
		return out, in
	}
}

// modelNode makes a node of what is read, so many levels deeper.
func modelNode(kind, deeper int, all ...model) model {
	return func(in []step, deep int) ([]api.Node, []step) {
		kids, rest := modelAll(all...)(in, deep+deeper)
		return []api.Node{{Kind: kind, Kids: kids}}, rest
	}
}

// modelIf reads something, if a word is next, else something else.
func modelIf(words string, then, otherwise model) model {
	return func(in []step, deep int) ([]api.Node, []step) {
		if modelNext(in, words) {
			return then(in, deep)
		}
		return otherwise(in, deep)
	}
}

// modelCommas reads what stands in brackets, behind the one that opens.
func modelCommas(one model, end string) model {
	more := func(in []step, deep int) ([]api.Node, []step) {
		out, in := one(in, deep)
		for modelNext(in, ",") {
			var got []api.Node
			got, in = modelAll(modelTake, one)(in, deep)
			out = append(out, got...)
		}
		return out, in
	}
	return modelAll(modelIf(end, modelAll(), more), modelWant(end))
}

// modelRow reads things with signs between them, at most so many times.
func modelRow(one model, words string, kind, most int, behind model) model {
	return func(in []step, deep int) ([]api.Node, []step) {
		left, in := one(in, deep)
		for ; most > 0 && modelNext(in, words); most-- {
			var got []api.Node
			got, in = behind(in, deep)
			left = []api.Node{{Kind: kind, Kids: append(left, got...)}}
		}
		return left, in
	}
}

func modelParams() model {
	return modelNode(api.NParams, 0, modelWant("("), modelCommas(modelWant("name"), ")"))
}

func modelExpression(in []step, deep int) ([]api.Node, []step) {
	if deep > 64 {
		return modelMissing("expression"), in
	}
	const far = 1 << 30
	call := modelRow(modelPart, "(", api.NCall, far, modelNode(api.NArgs, 1, modelTake, modelCommas(modelExpression, ")")))
	product := modelRow(call, "*", api.NBinary, far, modelAll(modelTake, call))
	sum := modelRow(product, "+ - ++", api.NBinary, far, modelAll(modelTake, product))
	e := modelRow(sum, "== <", api.NBinary, 1, modelAll(modelTake, sum))
	e = modelIf("fun", modelNode(api.NFun, 1, modelTake, modelParams(), modelWant("=>"), modelExpression), e)
	e = modelIf("if", modelNode(api.NIf, 1, modelTake, modelExpression, modelWant("then"), modelExpression, modelWant("else"), modelExpression), e)
	e = modelIf("let", modelNode(api.NLet, 1, modelTake, modelWants("name ="), modelExpression, modelWant("in"), modelExpression), e)
	return e(in, deep)
}

func modelPart(in []step, deep int) ([]api.Node, []step) {
	if len(in) == 0 {
		return modelMissing("expression"), in
	}
	kind := map[int]int{api.TInt: api.NNum, api.TText: api.NStr, api.TName: api.NVar}[in[0].kind]
	if k, ok := map[string]int{"true": api.NBool, "false": api.NBool, "?": api.NHole}[in[0].word]; ok {
		kind = k
	}
	if kind != 0 {
		return modelNode(kind, 0, modelTake)(in, deep)
	}
	switch in[0].word {
	case "(":
		return modelNode(api.NGroup, 1, modelTake, modelExpression, modelWant(")"))(in, deep)
	case "[":
		return modelNode(api.NList, 1, modelTake, modelCommas(modelExpression, "]"))(in, deep)
	}
	return modelMissing("expression"), in
}

func modelItem(in []step, deep int) ([]api.Node, []step) {
	none := modelAll()
	at := in
	if modelNext(in, "pub") {
		at = in[1:]
	}
	if modelNext(at, "use") {
		return modelNode(api.NUse, 0, modelIf("pub", modelTake, none), modelWants("use name . name"), modelIf("as", modelWants("as name"), none), modelWant(";"))(in, deep)
	}
	return modelNode(api.NDef, 0, modelIf("pub", modelTake, none), modelWants("def name"), modelIf("(", modelParams(), none), modelWant("="), modelExpression, modelWant(";"))(in, deep)
}

func modelJunk(in []step, _ int) ([]api.Node, []step) {
	n := api.Node{Kind: api.NJunk}
	for len(in) > 0 && !modelNext(in, "use pub def") {
		n.Kids = append(n.Kids, in[0].leaves...)
		in = in[1:]
		if last := n.Kids[len(n.Kids)-1].Text; last == ";" {
			break
		}
	}
	return []api.Node{n}, in
}

func modelRoot(text string) api.Node {
	root := api.Node{Kind: api.NFile}
	in, left := steps(text)
	for len(in) > 0 {
		var got []api.Node
		got, in = modelIf("use pub def", modelItem, modelJunk)(in, 0)
		root.Kids = append(root.Kids, got...)
	}
	root.Kids = append(root.Kids, left...)
	return root
}

// modelNotes tells what is wrong in a node that begins at a place.
func modelNotes(n api.Node, at int) []api.Note {
	switch {
	case n.Kind == api.NMissing:
		return []api.Note{{At: at, To: at, Err: api.ErrHole}}
	case n.Kind == api.NLeaf && n.Tok == api.TBad:
		return []api.Note{{At: at, To: at + len(n.Text), Err: api.ErrSyntax}}
	}
	var out []api.Note
	if n.Kind == api.NJunk {
		first := slices.IndexFunc(n.Kids, func(k api.Node) bool { return k.Tok != api.TSpace && k.Tok != api.TRemark })
		out = append(out, api.Note{At: at + len(modelPrint(n.Kids[:first])), To: at + len(modelPrint(n.Kids)), Err: api.ErrSyntax})
	}
	for _, k := range n.Kids {
		out = append(out, modelNotes(k, at)...)
		at += len(modelPrint([]api.Node{k}))
	}
	return out
}

func modelPrint(all []api.Node) string {
	text := ""
	for _, n := range all {
		if n.Kind == api.NLeaf {
			text += n.Text
		}
		text += modelPrint(n.Kids)
	}
	return text
}

// modelKids tells where the kids of a text's root, leaves aside, begin; behind the last one stands where it ends.
func modelKids(text string) []int {
	at, out := 0, []int{}
	for _, k := range modelRoot(text).Kids {
		if k.Kind != api.NLeaf {
			out = append(out, at)
			at += len(modelPrint([]api.Node{k}))
		}
	}
	return append(out, at)
}

// modelStays tells where the tokens end that stay ahead of what is replaced, and where those begin in the new text that stay behind it, as K3 has it.
func modelStays(text, after string, s api.Span) (int, int) {
	ahead := 0
	starts := []int{len(text)}
	for _, t := range lex.Tokens(text) {
		if t.At+t.Len+4 <= s.From {
			ahead = t.At + t.Len
		}
		if t.At >= s.To {
			starts = append(starts, t.At)
		}
	}
	behind := len(after)
	for _, t := range slices.Backward(lex.Tokens(after)) {
		if t.At >= ahead && t.At >= s.From+len(s.Text) && slices.Contains(starts, t.At-len(after)+len(text)) {
			behind = t.At
		}
	}
	return ahead, behind
}

// modelAnew tells how many kids of the root are read anew, as Z3 has it.
func modelAnew(text string, s api.Span) int {
	after := text[:s.From] + s.Text + text[s.To:]
	ahead, behind := modelStays(text, after, s)
	old, now := modelKids(text), modelKids(after)
	from := 0
	for ; from+1 < len(old); from++ {
		next := 0 // where the token ends that is next behind this one
		for _, t := range lex.Tokens(text) {
			if t.At >= old[from+1] && t.Kind != api.TSpace && t.Kind != api.TRemark {
				next = t.At + t.Len
				break
			}
		}
		if next == 0 || next > ahead {
			break
		}
	}
	anew := 0
	for _, at := range now[from : len(now)-1] {
		if at >= behind && slices.Contains(old[:len(old)-1], at-len(after)+len(text)) {
			break
		}
		anew++
	}
	return anew
}

// dice gives numbers that look as if thrown, the same ones each time.
type dice uint64

func (d *dice) below(n int) int {
	*d = *d*6364136223846793005 + 1442695040888963407
	return int(uint64(*d)>>33) % n
}

// words are what texts are put together from: all that the chapter names, and what is wrong.
func words() []string {
	return []string{
		"use", "as", "pub", "def", "let", "in", "if", "then", "else", "fun", "true", "false", "a", "name", "expression", "0", "7", `""`, `"x"`,
		"(", ")", "[", "]", ",", ";", "=", "=>", "==", "<", "+", "-", "++", "*", ".", "?", "(", ")", "(", ")", ";", ";", "=", "def", "use",
		" ", " ", "\n", "-- so\n", "{- so -}", "@", `"`, `"\q"`, "{-", "-}", "\xff", "\u00e9", "1234567890123456789",
		"use a.b;", "use a.b as c;", "pub use a.b;", "def f = 1;", "pub def g(x, y) = x + y;", "def h = let x = 1 in x;", "def k(x) = if x then f(x) else fun (y) => [y, ?];",
	}
}

// text puts words together, most of them with a blank between.
func (d *dice) text(count int) string {
	var b strings.Builder
	all := words()
	for range count {
		b.WriteString(all[d.below(len(all))])
		if d.below(4) > 0 {
			b.WriteByte(' ')
		}
	}
	return b.String()
}

// good gives a text of items without anything wrong.
func (d *dice) good(items int) string {
	var b strings.Builder
	for range items {
		switch d.below(4) {
		case 0:
			b.WriteString([]string{"use a.b;", "pub use a . b as c;\n", " use x.y as z ;"}[d.below(3)])
		case 1:
			b.WriteString("pub def f(x, y) = " + d.expression(3) + ";")
		case 2:
			b.WriteString("-- so\ndef f() = " + d.expression(3) + " ;\n")
		default:
			b.WriteString(" def f = " + d.expression(3) + ";")
		}
	}
	return b.String()
}

func (d *dice) expression(deep int) string {
	if deep == 0 {
		return []string{"1", "x", "true", "?", `"t"`, "[]", "f()", "{- so -} y"}[d.below(8)]
	}
	e := func() string { return d.expression(deep - 1) }
	switch d.below(12) {
	case 0:
		return "let x = " + e() + " in " + e()
	case 1:
		return "if " + e() + " then " + e() + " else " + e()
	case 2:
		return "fun (x, y) => " + e()
	case 3:
		return "(" + e() + ")"
	case 4:
		return "[" + e() + ", " + e() + "]"
	case 5:
		return "f(" + e() + ")(" + e() + "," + e() + ")"
	default:
		return d.expression(0) + []string{" + ", " - ", "*", " ++ ", " == ", "<"}[d.below(6)] + "(" + e() + ")"
	}
}
