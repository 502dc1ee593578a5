package lay

import (
	"strings"
	"testing"
	"unicode/utf8"

	"amanuensis/api"
	"amanuensis/lex"
	"amanuensis/tree"
)

// word is a leaf that is no space and no remark, with the kind of the node that it stands in.
type word struct {
	text string
	in   int
}

// words gives those of a node, and its remarks, from the left.
func words(n api.Node, in int) (all []word, remarks []string) {
	if n.Kind == api.NLeaf && n.Tok == api.TRemark {
		return nil, []string{n.Text}
	}
	if n.Kind == api.NLeaf && n.Tok != api.TSpace {
		return []word{{n.Text, in}}, nil
	}
	for _, kid := range n.Kids {
		w, r := words(kid, n.Kind)
		all, remarks = append(all, w...), append(remarks, r...)
	}
	return all, remarks
}

// flat is L2, word by word.
func flat(nodes ...api.Node) string {
	all, _ := words(api.Node{Kind: api.NFile, Kids: nodes}, api.NFile)
	text := ""
	for i, w := range all {
		blank := i > 0
		if blank {
			last := all[i-1].text
			blank = !strings.Contains(" ) ] , ; ( . ", " "+w.text+" ") || w.text == "(" && w.in == api.NGroup
			if last == "(" || last == "[" || last == "." {
				blank = false
			}
		}
		if blank {
			text += " "
		}
		text += w.text
	}
	return text
}

// loud gives the kids of a node that are no spaces and no remarks.
func loud(n api.Node) []api.Node {
	var kids []api.Node
	for _, kid := range n.Kids {
		if kid.Kind != api.NLeaf || kid.Tok != api.TSpace && kid.Tok != api.TRemark {
			kids = append(kids, kid)
		}
	}
	return kids
}

// within gives the flat text of some kids of a node.
func within(n api.Node, kids []api.Node) string { return flat(api.Node{Kind: n.Kind, Kids: kids}) }

// modelExpression is L3 of an expression, as lines.
func modelExpression(e api.Node, n int) []string {
	blanks, kids := strings.Repeat(" ", n), loud(e)
	last := len(kids) - 1
	head := func(to int) string { return blanks + within(e, kids[:to]) }
	whole := []string{blanks + flat(e)}
	if n+utf8.RuneCountInString(flat(e))+1 <= 80 {
		return whole
	}
	switch e.Kind {
	case api.NLet:
		return append([]string{head(last)}, modelExpression(kids[last], n)...)
	case api.NIf:
		lines := append([]string{head(3)}, modelExpression(kids[3], n+2)...)
		lines = append(lines, blanks+"else")
		return append(lines, modelExpression(kids[5], n+2)...)
	case api.NFun:
		return append([]string{head(last)}, modelExpression(kids[last], n+2)...)
	case api.NCall:
		if args := loud(kids[1]); len(args) > 2 {
			lines := append([]string{blanks + flat(kids[0]) + "("}, modelParts(args, n+2)...)
			return append(lines, blanks+")")
		}
	case api.NList, api.NGroup:
		if last > 1 {
			lines := append([]string{blanks + kids[0].Text}, modelParts(kids, n+2)...)
			return append(lines, blanks+kids[last].Text)
		}
	case api.NBinary:
		lines := append(modelExpression(kids[0], n), blanks+kids[1].Text)
		return append(lines, modelExpression(kids[2], n+2)...)
	}
	return whole
}

// modelParts is L3 of what stands in brackets, whose kids are given.
func modelParts(kids []api.Node, n int) []string {
	var lines []string
	for i := 1; i < len(kids)-1; i += 2 {
		lines = append(lines, modelExpression(kids[i], n)...)
		if i < len(kids)-2 {
			lines[len(lines)-1] += ","
		}
	}
	return lines
}

// modelItem is L3 of an item.
func modelItem(item api.Node) []string {
	if item.Kind == api.NUse || utf8.RuneCountInString(flat(item)) <= 80 {
		return []string{flat(item)}
	}
	kids := loud(item)
	last := len(kids) - 1
	lines := append([]string{flat(kids[:last-1]...)}, modelExpression(kids[last-1], 2)...)
	lines[len(lines)-1] += ";"
	return lines
}

// model is L1.
func model(text string) (string, error) {
	t := tree.New(text)
	if len(t.Notes()) > 0 {
		return "", api.ErrSyntax
	}
	var lines []string
	for _, kid := range t.Root().Kids {
		_, remarks := words(kid, api.NFile)
		lines = append(lines, remarks...)
		if kid.Kind != api.NLeaf {
			lines = append(lines, modelItem(kid)...)
		}
	}
	return strings.Join(append(lines, ""), "\n"), nil
}

// tokens gives the remarks of a text, and all else but spaces.
func tokens(text string) (remarks, others string) {
	for _, k := range lex.Tokens(text) {
		piece := text[k.At:k.At+k.Len] + "\x00"
		switch k.Kind {
		case api.TSpace:
		case api.TRemark:
			remarks += piece
		default:
			others += piece
		}
	}
	return remarks, others
}

// check holds the layout of a text against the model, and that against L4; it tells whether there is one.
func check(t *testing.T, text string) bool {
	t.Helper()
	got, err := Layout(text)
	want, wrong := model(text)
	if got != want || err != wrong {
		t.Fatalf("%q:\ngot\n%s%v\nwant\n%s%v", text, got, err, want, wrong)
	}
	if err != nil {
		return false
	}
	if again, err := Layout(got); again != got || err != nil {
		t.Fatalf("%q: again:\ngot\n%s%v\nwant\n%s", text, again, err, got)
	}
	remarks, others := tokens(text)
	if r, o := tokens(got); r != remarks || o != others {
		t.Fatalf("%q: tokens\n%q\n%q\nof the layout\n%q\n%q", text, remarks, others, r, o)
	}
	return true
}

// dice draws numbers, the same ones each time.
type dice uint64

func (d *dice) draw(n int) int {
	*d = *d*6364136223846793005 + 1442695040888963407
	return int(uint64(*d>>33) % uint64(n))
}

func (d *dice) one(of ...string) string { return of[d.draw(len(of))] }

// writer draws the tokens of a program; wide: how many of its names and texts are long, out of 16.
type writer struct {
	*dice
	wide   int
	tokens []string
}

func (w *writer) put(tokens ...string) { w.tokens = append(w.tokens, tokens...) }

func (w *writer) name() string {
	name := w.one("x", "f", "é", "λ1", "long_name", "ж")
	if w.draw(16) < w.wide {
		name = strings.Repeat(name, 1+w.draw(20))
	}
	return name
}

func (w *writer) text() string {
	inner := w.one("", "a", "é", `\n`, "( [ ", ".", "\U0001F600", "\xff", "--", "{-", ";")
	if w.draw(16) < w.wide {
		inner = strings.Repeat(inner, w.draw(90))
	}
	return `"` + inner + `"`
}

// several draws what stands in brackets.
func (w *writer) several(deep int, one func(deep int)) {
	for i := range w.draw(4) {
		if i > 0 {
			w.put(",")
		}
		one(deep)
	}
}

func (w *writer) params() {
	w.put("(")
	w.several(0, func(int) { w.put(w.name()) })
	w.put(")")
}

func (w *writer) expression(deep int) {
	kind := w.draw(6)
	if deep <= 0 {
		kind = 5
	}
	switch kind {
	case 0:
		w.put("let", w.name(), "=")
		w.expression(deep - 1)
		w.put("in")
		w.expression(deep - 1)
	case 1:
		w.put("if")
		w.expression(deep - 1)
		w.put("then")
		w.expression(deep - 1)
		w.put("else")
		w.expression(deep - 1)
	case 2:
		w.put("fun")
		w.params()
		w.put("=>")
		w.expression(deep - 1)
	case 3:
		w.sum(deep - 1)
		w.put(w.one("==", "<"))
		w.sum(deep - 1)
	default:
		w.sum(deep)
	}
}

func (w *writer) sum(deep int) {
	w.call(deep)
	for range w.draw(3) {
		w.put(w.one("+", "-", "++", "*"))
		w.call(deep - 1)
	}
}

func (w *writer) call(deep int) {
	w.part(deep)
	for w.draw(3) == 0 {
		w.put("(")
		if deep > 0 {
			w.several(deep-1, w.expression)
		}
		w.put(")")
	}
}

func (w *writer) part(deep int) {
	kind := w.draw(7)
	if deep <= 0 {
		kind = 2 + w.draw(5)
	}
	switch kind {
	case 0:
		w.put("(")
		w.expression(deep - 1)
		w.put(")")
	case 1:
		w.put("[")
		w.several(deep-1, w.expression)
		w.put("]")
	case 2:
		w.put(w.one("1", "007", "999999999999999999"))
	case 3:
		w.put(w.one("true", "false"))
	case 4:
		w.put("?")
	case 5:
		w.put(w.text())
	default:
		w.put(w.name())
	}
}

func (w *writer) item(deep int) {
	if w.draw(3) == 0 {
		w.put("pub")
	}
	if w.draw(4) == 0 {
		w.put("use", w.name(), ".", w.name())
		if w.draw(2) == 0 {
			w.put("as", w.name())
		}
	} else {
		w.put("def", w.name())
		if w.draw(2) == 0 {
			w.params()
		}
		w.put("=")
		w.expression(deep)
	}
	w.put(";")
}

// gap draws spaces and remarks.
func (d *dice) gap(remarks int) string {
	gap := d.one("", "", " ", " ", "\n  ", "\t\r\n")
	for d.draw(16) < remarks {
		gap += d.one("-- so\n", "--\r\n", "{- é {- -} -}", "{- a\n  b -}", "{--}", " -- ( {-\n") + d.one("", " ", "\n")
	}
	return gap
}

// apartBy tells whether tokens that stand side by side stay what they are.
func apartBy(last, gap, token string) bool {
	count := len(lex.Tokens(last)) + len(lex.Tokens(gap)) + len(lex.Tokens(token))
	whole := lex.Tokens(last + gap + token)
	return len(whole) == count && (last == "" || whole[0].Len == len(last)) && whole[count-1].Len == len(token)
}

// joined puts tokens into a text with what is drawn between them, and blanks where they would be others.
func (d *dice) joined(tokens []string, remarks int) string {
	var text strings.Builder
	last := ""
	for _, token := range tokens {
		gap := d.gap(remarks)
		if !apartBy(last, gap, token) {
			gap = " " + strings.TrimRight(gap, " \t\r\n") + "\n"
		}
		text.WriteString(gap + token)
		last = token
	}
	text.WriteString(d.one("", "\n", " -- end", "{- x -}", "\t{- x\n-}\n\n"))
	return text.String()
}

func TestL1ModelOfDrawnTexts(t *testing.T) {
	laidOut := 0
	d := dice(1)
	for round := range 3000 {
		w := writer{dice: &d, wide: round % 7}
		for range 1 + d.draw(3) {
			w.item(round % 5)
		}
		text := d.joined(w.tokens, round%4)
		if !check(t, text) {
			t.Fatalf("%q is wrong", text)
		}
		if laid, _ := Layout(text); strings.Contains(laid, "\n  ") {
			laidOut++
		}
	}
	if laidOut < 750 {
		t.Errorf("only %d texts have lines that are indented", laidOut)
	}
}

// Texts in which a few tokens are lost, or stand elsewhere: most are wrong.
func TestL1ModelOfDrawnTextsThatAreSpoilt(t *testing.T) {
	right := 0
	d := dice(2)
	for round := range 6000 {
		w := writer{dice: &d, wide: round % 3}
		w.item(round % 4)
		w.item(round % 3)
		for range 1 + d.draw(2) {
			at := d.draw(len(w.tokens))
			switch d.draw(3) {
			case 0:
				w.tokens[at] = w.tokens[d.draw(len(w.tokens))]
			case 1:
				w.tokens = append(w.tokens[:at], w.tokens[at+1:]...)
			default:
				w.tokens[at] = d.one("(", ")", ",", ";", "\"", "{-", "-}", "!", "1", "x", "let", "in", "=", "--")
			}
		}
		if check(t, strings.Join(w.tokens, d.one(" ", "\n", " {- -} "))) {
			right++
		}
	}
	if right < 300 || right > 5000 {
		t.Errorf("%d texts are right", right)
	}
}

// Texts of pieces without any order.
func TestL1ModelOfSoup(t *testing.T) {
	d := dice(3)
	for range 20000 {
		text := ""
		for range d.draw(12) {
			text += d.one("def f =", "def f(x) =", "pub ", "use a.b;", ";", "1", "x", "(", ")", "[", "]", ",", " ", "\n", "-- a\n", "--", "{- -}", "{-", "-}", "+", "let x = ", " in ", "?", "\"a\"", "\xff", "as")
		}
		check(t, text)
	}
}

// shapes gives expressions of each kind around a given one, at each place of it.
func shapes(e string) []string {
	return []string{
		"let x = " + e + " in y", "let x = y in " + e,
		"if " + e + " then x else y", "if x then " + e + " else y", "if x then y else " + e,
		"fun() => " + e, "fun(x, y) => " + e,
		"(" + e + ")", "[" + e + "]", "[x, " + e + ", y]", "[" + e + ", [], " + e + "]",
		"g(" + e + ")", "g(x, " + e + ", y)", "(" + e + ")(x)", "g(" + e + ")()", "g(" + e + ")(x)", "g(x)(" + e + ")", "g()(" + e + ")(x)",
		"(" + e + ") + x", "x + (" + e + ")", "x * (" + e + ") + y", "x - y - (" + e + ")", "x == (" + e + ") ++ y", "(" + e + ") < x",
	}
}

// Each kind in each other one, at each place, of all lengths around which lines are broken.
func TestL3ModelOfEachKindInEachOther(t *testing.T) {
	for _, inner := range shapes("\x00") {
		for _, outer := range shapes(inner) {
			for _, size := range []int{2, 20, 70, 90} {
				check(t, "def f = "+strings.ReplaceAll(outer, "\x00", long(size))+";")
			}
		}
	}
}

// Each kind, at each place, of every length.
func TestL3ModelOfEveryLength(t *testing.T) {
	for _, outer := range shapes("\x00") {
		for size := 2; size < 90; size++ {
			e := strings.ReplaceAll(outer, "\x00", long(size))
			check(t, "def f = "+e+";")
			check(t, "pub def λ() = ["+e+"];")
			check(t, "def f = if true then "+e+" else ("+e+", 1")
			check(t, "def f = if true then "+e+" else ["+e+", 1];")
		}
	}
}
