package colour

import (
	"fmt"
	"slices"
	"strings"
	"testing"
	"unicode/utf16"

	"amanuensis/api"
	"amanuensis/lex"
	"amanuensis/rope"
	"amanuensis/scope"
	"amanuensis/tree"
)

// leaf is a token, by the tree: where it begins, and whether it is in an NUse or NDef.
type leaf struct {
	api.Node
	at   int
	item bool
}

// leaves gives those of a node, and where it ends.
func leaves(n api.Node, at int, item bool) ([]leaf, int) {
	if n.Kind == api.NLeaf {
		return []leaf{{n, at, item}}, at + len(n.Text)
	}
	var all []leaf
	for _, kid := range n.Kids {
		var some []leaf
		some, at = leaves(kid, at, item || n.Kind == api.NUse || n.Kind == api.NDef)
		all = append(all, some...)
	}
	return all, at
}

// slowUse gives the name that begins at a place.
func slowUse(t *testing.T, names []api.Use, file, at int) api.Use {
	for _, u := range names {
		if u.File == file && u.At == at {
			return u
		}
	}
	t.Fatalf("no name at %d of %d", at, file)
	return api.Use{}
}

// slowName tells what a name in an NUse or NDef is, case by case as the chapter has them.
func slowName(t *testing.T, names []api.Use, u api.Use) int {
	nothing := u.ToFile == -1 && u.To == -1
	switch {
	case u.Err != api.OK:
		return 12
	case u.As == api.UVar && nothing, u.As == api.UAlias && nothing:
		return 12
	}
	as := u.As
	if as == api.UVar {
		as = slowUse(t, names, u.ToFile, u.To).As
	}
	switch as {
	case api.UDef:
		return 7
	case api.UParam:
		return 8
	case api.ULet:
		return 9
	case api.UModule:
		return 10
	case api.UItem, api.UAlias:
		return 11
	}
	t.Fatalf("a name stands for %d", as)
	return 0
}

// slowKind tells what a token is.
func slowKind(t *testing.T, names []api.Use, file int, l leaf) int {
	switch l.Tok {
	case api.TWord:
		return 1
	case api.TInt:
		return 2
	case api.TText:
		return 3
	case api.TRemark:
		return 4
	case api.TSign:
		return 5
	case api.TBad:
		return 6
	}
	if !l.item {
		return 13
	}
	return slowName(t, names, slowUse(t, names, file, l.at))
}

// slow gives the colours of a file, without care for time: places by a rope, units by another library's reckoning.
func slow(t *testing.T, files []api.File, file int) []api.Colour {
	t.Helper()
	names, err := scope.Resolve(files)
	if err != nil {
		t.Fatal(err)
	}
	r := rope.New(files[file].Text)
	tokens, _ := leaves(tree.New(files[file].Text).Root(), 0, false)
	var all []api.Colour
	var ahead api.Place
	for _, l := range tokens {
		if l.Tok == api.TSpace {
			continue
		}
		here := r.Place(l.at)
		c := api.Colour{Line: here.Line - ahead.Line, Unit: here.Unit, Len: len(utf16.Encode([]rune(l.Text))), Kind: slowKind(t, names, file, l)}
		if c.Line == 0 {
			c.Unit -= ahead.Unit
		}
		all = append(all, c)
		ahead = here
	}
	return all
}

// check holds the colours of all files against the model; and those of each file against those of the next one.
func check(t *testing.T, files []api.File) (all []api.Colour) {
	t.Helper()
	var last []api.Colour
	for file := range files {
		got, err := Colours(files, file)
		if want := slow(t, files, file); err != nil || !slices.Equal(got, want) {
			t.Fatalf("%q, %d: %v\ngot  %v\nwant %v", files, file, err, got, want)
		}
		checkDiff(t, last, got)
		all, last = append(all, got...), got
	}
	return all
}

// slowDiff tells what Diff does, by trying.
func slowDiff(a, b []api.Colour) (at, drop int, put []api.Colour) {
	shorter := min(len(a), len(b))
	for n := range shorter + 1 {
		if slices.Equal(a[:n], b[:n]) {
			at = n
		}
	}
	behind := 0
	for n := range shorter - at + 1 {
		if slices.Equal(a[len(a)-n:], b[len(b)-n:]) {
			behind = n
		}
	}
	return at, len(a) - at - behind, b[at : len(b)-behind]
}

// checkDiff holds what Diff tells against the model, and what Patch makes of it against the other row.
func checkDiff(t *testing.T, a, b []api.Colour) {
	t.Helper()
	at, drop, put := Diff(a, b)
	wantAt, wantDrop, wantPut := slowDiff(a, b)
	if at != wantAt || drop != wantDrop || !slices.Equal(put, wantPut) {
		t.Fatalf("%v, %v: %d %d %v, want %d %d %v", a, b, at, drop, put, wantAt, wantDrop, wantPut)
	}
	if got, err := Patch(a, at, drop, put); err != nil || !slices.Equal(got, b) {
		t.Fatalf("%v, %v: back %v, %v", a, b, got, err)
	}
}

// dice gives numbers that look as if by chance, and are the same each time.
type dice uint64

func (d *dice) roll(n int) int {
	*d = *d*6364136223846793005 + 1442695040888963407
	return int(uint64(*d>>33) % uint64(n))
}

func (d *dice) pick(words ...string) string { return words[d.roll(len(words))] }

func (d *dice) name() string { return d.pick("x", "y", "z", "x", "y", "a", "b", "é", "λ1", "name") }

// space gives what may stand between two tokens.
func (d *dice) space() string {
	return d.pick(" ", " ", " ", " ", "  ", "\n", "\r\n", "\t", "\n\n\n  ", " -- so\n", "-- \U0001F600\xff\n ", "{- é -}", "{-\n{- \U0001F600 -}\n-}", "{-\n\xc3-} \n")
}

// row joins tokens by spaces.
func (d *dice) row(tokens ...string) string {
	var out strings.Builder
	for _, k := range tokens {
		out.WriteString(k)
		out.WriteString(d.space())
	}
	return out.String()
}

func (d *dice) params() string {
	var all []string
	for i := range d.roll(4) {
		if i > 0 {
			all = append(all, ",")
		}
		all = append(all, d.name())
	}
	return "(" + d.row(all...) + ")"
}

func (d *dice) expression(deep int) string {
	kind := d.roll(12)
	if deep == 0 {
		kind %= 4
	}
	more := func() string { return d.expression(deep - 1) }
	switch kind {
	case 0:
		return d.pick("1", "007", "true", `"s"`, "\"é\U0001F600\xff\"", "?", "1234567890123456789", `"\q"`, "\"", "\U0001F600", "\xff")
	case 1, 2, 3:
		return d.name()
	case 4, 5, 6:
		return d.row("let", d.name(), "=", more(), "in", more())
	case 7:
		return d.row("if", more(), "then", more(), "else", more())
	case 8, 9:
		return d.row("fun", d.params(), "=>", more())
	case 10:
		return d.row("(", more(), ")", "(", more(), ",", more(), ")")
	}
	return d.row("[", more(), d.pick("+", "==", "++", "*", ",", "<"), more(), "]")
}

func (d *dice) item() string {
	pub := d.pick("pub", "pub", "")
	switch d.roll(5) {
	case 0:
		return d.row(pub, "def", d.name(), "=", d.expression(2), ";")
	case 1:
		return d.row(pub, "def", d.name(), d.params(), "=", d.expression(2), ";")
	case 2:
		return d.row(pub, "use", d.pick("a", "b", "c", "q"), ".", d.name(), ";")
	}
	return d.row(pub, "use", d.pick("a", "b", "c"), ".", d.name(), "as", d.name(), ";")
}

// spoil takes some tokens out of a text, or doubles them.
func (d *dice) spoil(text string) string {
	for range d.roll(4) {
		if tokens := lex.Tokens(text); len(tokens) > 0 {
			k := tokens[d.roll(len(tokens))]
			again := strings.Repeat(text[k.At:k.At+k.Len], d.roll(2)*2)
			text = text[:k.At] + again + text[k.At+k.Len:]
		}
	}
	return text
}

// text gives a file.
func (d *dice) text() string {
	out := d.pick("", "", "\n", " ")
	for range d.roll(5) {
		out += d.item()
	}
	return d.spoil(out)
}

func TestG1AgainstTheModel(t *testing.T) {
	d := dice(14)
	seen := map[int]int{}
	far := 0
	for range 1200 {
		var texts []string
		for range 1 + d.roll(3) {
			texts = append(texts, d.text())
		}
		for _, c := range check(t, filesOf(texts...)) {
			seen[c.Kind]++
			if c.Line > 1 && c.Unit > 1 {
				far++
			}
		}
	}
	for kind := 1; kind <= 13; kind++ {
		if seen[kind] < 100 {
			t.Errorf("%d came %d times", kind, seen[kind])
		}
	}
	if len(seen) != 13 || far < 100 {
		t.Errorf("others came: %v; %d far behind", seen, far)
	}
}

// Any bytes are a text.
func TestG1OfAnyBytes(t *testing.T) {
	d := dice(141)
	parts := []string{"use ", "pub ", "def ", "let ", "in ", "fun", "as ", "x", "y ", "a", ".", "(", ")", ",", "=", ";", " ", "\n", "\xff", "\xf0\x9f", "\x98\x80", "é", "\"", "\\", "--", "{-", "-}", "=>", "if ", "[", "]", "?", "1"}
	for range 1500 {
		var texts []string
		for range 1 + d.roll(2) {
			var out strings.Builder
			for range d.roll(40) {
				out.WriteString(d.pick(parts...))
			}
			texts = append(texts, out.String())
		}
		check(t, filesOf(texts...))
	}
}

// drawn gives a row of few kinds of colours, so that the same ones come again and again.
func (d *dice) drawn(most, kinds int) []api.Colour {
	var all []api.Colour
	for range d.roll(most + 1) {
		all = append(all, api.Colour{Line: d.roll(kinds), Kind: d.roll(kinds)})
	}
	return all
}

// changed gives a row in which a piece is another one.
func (d *dice) changed(a []api.Colour, kinds int) []api.Colour {
	from := d.roll(len(a) + 1)
	to := from + d.roll(len(a)-from+1)
	return slices.Concat(a[:from], d.drawn(4, kinds), a[to:])
}

func TestG2AgainstTheModel(t *testing.T) {
	d := dice(142)
	met := map[string]int{}
	for round := range 40000 {
		kinds := 1 + round%3
		a := d.drawn(12, kinds)
		b := d.drawn(12, kinds)
		if d.roll(4) > 0 {
			b = d.changed(a, kinds)
		}
		checkDiff(t, a, b)
		at, drop, put := Diff(a, b)
		met[fmt.Sprint(at > 0, drop > 0, len(put) > 0, at+drop < len(a))]++
	}
	for kind, count := range met {
		if count < 50 {
			t.Errorf("%s came %d times", kind, count)
		}
	}
	if len(met) != 14 { // where nothing is taken out and put in, all are the same from the beginning on
		t.Errorf("not all came: %v", met)
	}
}

// Patch of any numbers, and any rows.
func TestG2PatchAgainstTheModel(t *testing.T) {
	d := dice(143)
	for range 20000 {
		a, put := d.drawn(6, 2), d.drawn(3, 2)
		at, drop := d.roll(10)-1, d.roll(10)-1
		got, err := Patch(a, at, drop, put)
		if at < 0 || drop < 0 || at+drop > len(a) {
			if len(got) > 0 || errorName(t, err) != "ErrRange" {
				t.Fatalf("%v, %d, %d: %v, %v", a, at, drop, got, err)
			}
			continue
		}
		want := slices.Insert(slices.Delete(slices.Clone(a), at, at+drop), at, put...)
		if err != nil || !slices.Equal(got, want) {
			t.Fatalf("%v, %d, %d, %v: %v, %v", a, at, drop, put, got, err)
		}
	}
}
