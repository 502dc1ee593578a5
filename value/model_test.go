package value

import (
	"cmp"
	"errors"
	"maps"
	"math/big"
	"slices"
	"strings"
	"testing"

	"amanuensis/api"
	"amanuensis/infer"
	"amanuensis/lex"
	"amanuensis/scope"
	"amanuensis/syntax"
	"amanuensis/tree"
)

// slow finds what programs come to as the chapter tells it, by calls within calls; what is wrong ends it by a panic.
// A value is a *big.Int, a bool, a string, an []any or a slowFun.
type slow struct {
	stands map[place]place
	defs   map[place]*syntax.Def
	first  map[place]string // the defs that have their names, and these
	fuel   int
}

// slowFun is a function; around has what parameters and lets around it are.
type slowFun struct {
	params []syntax.Name
	body   syntax.Expression
	file   int
	around map[string]any
}

func slowOf(files []api.File) *slow {
	names, err := scope.Resolve(files)
	if err != nil {
		panic(err)
	}
	s := &slow{stands: map[place]place{}, defs: map[place]*syntax.Def{}, first: map[place]string{}}
	for i, f := range files {
		for _, item := range syntax.Read(tree.New(f.Text)) {
			if d, ok := item.(*syntax.Def); ok && d.Name.Text != "" {
				s.defs[place{i, d.Name.At}] = d
			}
		}
	}
	for _, n := range names {
		at := place{n.File, n.At}
		s.stands[at] = place{n.ToFile, n.To}
		if n.As == api.UDef && n.Err == api.OK {
			s.first[at] = s.defs[at].Name.Text
		}
	}
	return s
}

// sorted gives the defs without an NParams that have their names, file by file, from the left.
func (s *slow) sorted() []place {
	var all []place
	for at := range s.first {
		if s.defs[at].Params == nil {
			all = append(all, at)
		}
	}
	slices.SortFunc(all, func(a, b place) int { return cmp.Or(a.file-b.file, a.at-b.at) })
	return all
}

// eval gives what a def comes to, and how much fuel is left.
func (s *slow) eval(at place, fuel int) (out string, wrong api.Errno, left int) {
	defer func() {
		if r := recover(); r != nil {
			out, wrong, left = "", r.(api.Errno), s.fuel
		}
	}()
	s.fuel = fuel
	out = slowText(s.def(at))
	if len(out) > api.MaxFile {
		panic(api.ErrFull)
	}
	return out, api.OK, s.fuel
}

func (s *slow) burn() {
	if s.fuel == 0 {
		panic(api.ErrLong)
	}
	s.fuel--
}

func (s *slow) def(at place) any {
	d := s.defs[at]
	if d.Params != nil {
		return slowFun{d.Params.Names, d.Body, at.file, nil}
	}
	s.burn()
	return s.come(d.Body, at.file, nil)
}

func (s *slow) come(e syntax.Expression, file int, around map[string]any) any {
	if f, ok := e.(*syntax.Fun); ok {
		return slowFun{f.Params.Names, f.Body, file, around}
	}
	again := func(e syntax.Expression) any { return s.come(e, file, around) }
	switch e := e.(type) {
	case *syntax.Literal:
		return slowLiteral(e)
	case *syntax.Group:
		return again(e.Inner)
	case *syntax.List:
		return s.all(e.All, again)
	case *syntax.Binary:
		left := again(e.Left)
		return s.sign(e.Sign, left, again(e.Right))
	case *syntax.If:
		if truth(again(e.Test)) {
			return again(e.Then)
		}
		return again(e.Else)
	case *syntax.Let:
		inner := with(around, []syntax.Name{e.Name}, []any{again(e.Value)})
		return s.come(e.Body, file, inner)
	case *syntax.Call:
		called := again(e.Called)
		return s.call(called, s.all(e.Args, again))
	case *syntax.Var:
		return s.name(e, file, around)
	}
	panic(api.ErrStuck)
}

func (s *slow) all(parts []syntax.Expression, again func(syntax.Expression) any) []any {
	all := []any{}
	for _, p := range parts {
		all = append(all, again(p))
	}
	return all
}

func slowLiteral(l *syntax.Literal) any {
	switch l.Kind {
	case api.NNum:
		n, _ := new(big.Int).SetString(l.Text, 10)
		return n
	case api.NStr:
		text, _ := lex.Unquote(l.Text)
		return text
	}
	return l.Text == "true"
}

func truth(v any) bool {
	b, ok := v.(bool)
	if !ok {
		panic(api.ErrStuck)
	}
	return b
}

// with gives what is around, and these names.
func with(around map[string]any, names []syntax.Name, values []any) map[string]any {
	inner := map[string]any{}
	maps.Copy(inner, around)
	for i := len(names) - 1; i >= 0; i-- { // of two that are the same the first counts
		if names[i].Text != "" {
			inner[names[i].Text] = values[i]
		}
	}
	return inner
}

func (s *slow) call(called any, parts []any) any {
	f, ok := called.(slowFun)
	if !ok || len(f.params) != len(parts) {
		panic(api.ErrStuck)
	}
	s.burn()
	return s.come(f.body, f.file, with(f.around, f.params, parts))
}

func (s *slow) name(v *syntax.Var, file int, around map[string]any) any {
	if value, ok := around[v.Name.Text]; ok {
		return value
	}
	to := s.stands[place{file, v.Name.At}]
	if s.defs[to] == nil {
		panic(api.ErrStuck)
	}
	return s.def(to)
}

func (s *slow) sign(sign string, left, right any) any {
	if sign == "==" {
		return s.same(left, right)
	}
	if sign == "++" {
		a, ok := left.(string)
		b, too := right.(string)
		if !ok || !too {
			panic(api.ErrStuck)
		}
		if len(a+b) > api.MaxFile {
			panic(api.ErrFull)
		}
		return a + b
	}
	a, ok := left.(*big.Int)
	b, too := right.(*big.Int)
	if !ok || !too {
		panic(api.ErrStuck)
	}
	n := new(big.Int)
	switch sign {
	case "<":
		return a.Cmp(b) < 0
	case "+":
		n.Add(a, b)
	case "-":
		n.Sub(a, b)
	case "*":
		n.Mul(a, b)
	}
	if !n.IsInt64() {
		panic(api.ErrStuck)
	}
	return n
}

func (s *slow) same(left, right any) bool {
	switch a := left.(type) {
	case *big.Int:
		if b, ok := right.(*big.Int); ok {
			return a.Cmp(b) == 0
		}
	case bool, string:
		switch right.(type) {
		case bool, string:
			if slowKind(left) == slowKind(right) {
				return left == right
			}
		}
	case []any:
		if b, ok := right.([]any); ok {
			return len(a) == len(b) && s.samePartners(a, b)
		}
	}
	panic(api.ErrStuck)
}

func (s *slow) samePartners(a, b []any) bool {
	for i := range a {
		s.burn()
		if !s.same(a[i], b[i]) {
			return false
		}
	}
	return true
}

func slowKind(v any) string {
	if _, ok := v.(bool); ok {
		return "bool"
	}
	return "text"
}

func slowText(v any) string {
	switch v := v.(type) {
	case *big.Int:
		return v.String()
	case bool:
		if v {
			return "true"
		}
		return "false"
	case string:
		return lex.Quote(v)
	case []any:
		var all []string
		for _, part := range v {
			all = append(all, slowText(part))
		}
		return "[" + strings.Join(all, ", ") + "]"
	}
	return "fun"
}

// dice gives numbers that are the same in each run.
type dice uint64

func (d *dice) roll(n int) int {
	*d = *d*6364136223846793005 + 1442695040888963407
	return int(uint64(*d) >> 33 % uint64(n))
}

func (d *dice) pick(all ...string) string { return all[d.roll(len(all))] }

// Names begin with what they may well be: i numbers, b truths, t texts, l lists of numbers, f functions of one number, h functions of a number and a function.

// name gives a name of a kind.
func (d *dice) name(kind string) string { return kind + d.pick("", "1", "2") }

// expression gives one that may well be of the kind that is wished, with the names that may well be known.
func (d *dice) expression(deep int, wish string, known []string) string {
	if d.roll(60) == 0 {
		wish = d.pick("i", "b", "t", "l", "f", "h")
	}
	if deep == 0 || d.roll(5) == 0 {
		return d.plain(wish, known)
	}
	again := func(wish string) string { return d.expression(deep-1, wish, known) }
	switch d.roll(10) {
	case 0:
		return "(" + again(wish) + ")"
	case 1:
		return "(if " + again("b") + " then " + again(wish) + " else " + again(wish) + ")"
	case 2, 3:
		name := d.name(d.pick("i", "b", "t", "l", "f"))
		return "(let " + name + " = " + again(name[:1]) + " in " + d.expression(deep-1, wish, append(known[:len(known):len(known)], name)) + ")"
	case 4:
		name := d.name(d.pick("i", "b", "t", "l", "f"))
		return "(fun(" + name + ") => " + d.expression(deep-1, wish, append(known[:len(known):len(known)], name)) + ")(" + again(name[:1]) + ")"
	}
	return d.made(wish, again, known, deep)
}

// made gives an expression whose outermost part makes what is wished.
func (d *dice) made(wish string, again func(string) string, known []string, deep int) string {
	switch wish {
	case "i":
		switch d.roll(4) {
		case 0:
			return again("f") + "(" + again("i") + ")"
		case 1:
			return again("h") + "(" + again("i") + ", " + again("f") + ")"
		}
		return "(" + again("i") + d.pick("+", "-", "*") + again("i") + ")"
	case "b":
		if d.roll(3) == 0 {
			return "(" + again("i") + " < " + again("i") + ")"
		}
		kind := d.pick("i", "b", "t", "l", "l", "l")
		return "(" + again(kind) + " == " + again(kind) + ")"
	case "t":
		return "(" + again("t") + " ++ " + again("t") + ")"
	case "l":
		var all []string
		for range d.roll(4) {
			all = append(all, again("i"))
		}
		return "[" + strings.Join(all, ", ") + "]"
	}
	params := d.params(wish)
	return "(fun(" + strings.Join(params, ", ") + ") => " + d.expression(deep-1, "i", append(known[:len(known):len(known)], params...)) + ")"
}

// params gives the names of a function; now and then they are not those that it should have.
func (d *dice) params(kind string) []string {
	params := []string{d.name("i")}
	if kind == "h" {
		params = append(params, d.name("f"))
	}
	switch d.roll(30) {
	case 0:
		return append(params, "")
	case 1:
		return append(params, params[0])
	case 2:
		return params[1:]
	}
	return params
}

func (d *dice) plain(wish string, known []string) string {
	if d.roll(40) == 0 {
		return d.pick("?", "", "nothing", d.name(wish))
	}
	var fit []string
	for _, name := range known {
		if strings.HasPrefix(name, wish) {
			fit = append(fit, name)
		}
	}
	if len(fit) > 0 && d.roll(3) > 0 {
		return d.pick(fit...)
	}
	switch wish {
	case "i":
		return d.pick("0", "1", "2", "3", "10", "999999999999999999")
	case "b":
		return d.pick("true", "false", "1 < 2")
	case "t":
		return d.pick(`""`, `"a"`, `"é\n"`, `"\u{1}"`, `"0123456789012345678901234567890123456789"`)
	case "l":
		return d.pick("[]", "[1]", "[1, 2]", "[[1], [2, 3]]", "[true]")
	case "f":
		return d.pick("fun(i) => i", "fun(i) => i + 1", "fun(i) => i * i")
	}
	return d.pick("fun(i, f) => f(i)", "fun(i, f) => f(f(i))")
}

// def gives one, which knows the names of those ahead of it, and now and then its own one.
func (d *dice) def(name string, known []string) string {
	if d.roll(12) == 0 {
		known = append(known[:len(known):len(known)], name)
	}
	kind, head := name[:1], "pub def "+name
	deep := 1 + d.roll(4)
	if (kind == "f" || kind == "h") && d.roll(3) > 0 {
		params := d.params(kind)
		inner := append(known[:len(known):len(known)], params...)
		head += "(" + strings.Join(params, ", ") + ") = "
		if d.roll(2) == 0 { // it calls itself, with less
			return head + "if i < 1 then " + d.expression(deep, "i", inner) + " else " + name + d.pick("(i - 1)", "(i - 1, f)") + d.pick("+", "-", "*") + d.expression(deep, "i", inner) + ";"
		}
		return head + d.expression(deep, "i", inner) + ";"
	}
	return head + " = " + d.expression(deep, kind, known) + ";"
}

// files gives some; now and then with a piece that is wrong.
func (d *dice) files() []api.File {
	var all []api.File
	for i := range 1 + d.roll(3) {
		text := d.text(i)
		for range d.roll(8) / 7 {
			at := d.roll(len(text))
			text = text[:at] + d.pick("?", "(", ")", "def", " ", "é", "in", ",", "=", "x") + text[min(len(text), at+d.roll(3)):]
		}
		all = append(all, api.File{Name: string(rune('a' + i)), Text: text})
	}
	return all
}

func (d *dice) text(file int) string {
	text := ""
	var known []string
	for range 1 + d.roll(6) {
		name := d.name(d.pick("i", "b", "t", "l", "f", "h"))
		if file > 0 && d.roll(4) == 0 {
			text += "use " + string(rune('a'+d.roll(file))) + "." + name + d.pick("", " as "+name) + ";"
		} else {
			text += d.def(name, known)
		}
		known = append(known, name)
		text += d.pick("", " ", "\n", "-- so\n")
	}
	return text
}

// tally counts what was told, by what is wrong.
type tally map[api.Errno]int

// compare holds Eval against the model, with fuel that is enough, and just enough, and not enough.
func (c tally) compare(t *testing.T, files []api.File, d *dice) {
	t.Helper()
	s := slowOf(files)
	for _, at := range s.sorted() {
		name := s.first[at]
		_, _, left := s.eval(at, 300)
		used := 300 - left
		for _, fuel := range []int{300, used, max(used-1, 0), d.roll(used + 1)} {
			want, wrong, _ := s.eval(at, fuel)
			got, err := Eval(files, at.file, name, fuel)
			var errno api.Errno
			errors.As(err, &errno)
			if got != want || errno != wrong {
				t.Fatalf("%q %d %s %d: got %s %v, want %s %v", files, at.file, name, fuel, got, err, want, wrong)
			}
			c[wrong]++
		}
	}
}

func TestV1AsTheModel(t *testing.T) {
	d, c := dice(11), tally{}
	for range 700 {
		c.compare(t, d.files(), &d)
	}
	t.Log(c)
	for _, wrong := range []api.Errno{api.OK, api.ErrStuck, api.ErrLong} {
		if c[wrong] < 1000 {
			t.Errorf("%v: these are no good dice", c)
		}
	}
}

// Texts and values that are about as long as they may be.
func TestV2LongAsTheModel(t *testing.T) {
	d, c := dice(12), tally{}
	for range 1000 {
		size := api.MaxFile/(1+d.roll(2)) - 100 + d.roll(200)
		text := "def t=" + d.pick(`"`+strings.Repeat("x", size/8)+`"`, `"`+strings.Repeat(`\n`, size/8)+`"`) + ";def d(s)=s++s;def e(s)=[s,s];"
		long := func() string {
			return d.pick("d(t)", "d(d(t))", "d(d(d(t)))", "t++d(d(t))", `d(d(t))++"y"`, "d(d(t))++d(d(t))")
		}
		text += "def main=" + d.pick(long(), "e("+long()+")", "["+long()+","+long()+"]", long()+"=="+long(), "e(d(t)++t)==["+long()+","+long()+"]", "["+long()+","+long()+"=="+long()+"]") + ";"
		if len(text) <= api.MaxFile {
			c.compare(t, files(text), &d)
		}
	}
	t.Log(c)
	if c[api.OK] < 500 || c[api.ErrFull] < 500 {
		t.Errorf("%v: these are no good dice", c)
	}
}

// kind is a type, or what is known of one by a value: a word and parts; without a word it is not known.
type kind struct {
	word  string
	parts []kind
}

// kindReader reads tokens that are neither spaces nor remarks.
type kindReader []string

func readerOf(text string) *kindReader {
	var all kindReader
	for _, k := range lex.Tokens(text) {
		if k.Kind != api.TSpace {
			all = append(all, text[k.At:k.At+k.Len])
		}
	}
	return &all
}

func (r *kindReader) next() string {
	word := (*r)[0]
	*r = (*r)[1:]
	return word
}

// ofType reads a type.
func (r *kindReader) ofType() kind {
	word := r.next()
	switch word {
	case "[":
		inner := r.ofType()
		r.next()
		return kind{"[", []kind{inner}}
	case "(":
		for (*r)[0] != ")" {
			r.ofType()
			if (*r)[0] == "," {
				r.next()
			}
		}
		r.next()
		r.next() // -
		r.next() // >
		r.ofType()
		return kind{word: "fun"}
	}
	return kind{word: word}
}

// ofValue reads a value, and gives what is known of its type; false, if it has none.
func (r *kindReader) ofValue() (kind, bool) {
	word := r.next()
	switch {
	case word == "[":
		return r.ofList()
	case word == "-":
		r.next()
		return kind{word: "int"}, true
	case word == "true", word == "false":
		return kind{word: "bool"}, true
	case word == "fun":
		return kind{word: "fun"}, true
	case word[0] == '"':
		return kind{word: "text"}, true
	}
	return kind{word: "int"}, true
}

func (r *kindReader) ofList() (kind, bool) {
	inner, good := kind{}, true
	for (*r)[0] != "]" {
		part, ok := r.ofValue()
		merged, same := merge(inner, part)
		inner, good = merged, good && ok && same
		if (*r)[0] == "," {
			r.next()
		}
	}
	r.next()
	return kind{"[", []kind{inner}}, good
}

// merge gives what is known by both; false, if they cannot be one.
func merge(a, b kind) (kind, bool) {
	if a.word == "" {
		return b, true
	}
	if b.word == "" {
		return a, true
	}
	if a.word != b.word {
		return kind{}, false
	}
	if a.word != "[" {
		return a, true
	}
	inner, ok := merge(a.parts[0], b.parts[0])
	return kind{"[", []kind{inner}}, ok
}

// fits tells whether what is known by a value is of a type, with some types in the place of its variables.
func fits(is, known kind, variables map[string]kind) bool {
	switch is.word {
	case "int", "bool", "text", "fun", "[":
		if known.word == "" {
			return true
		}
		return is.word == known.word && (is.word != "[" || fits(is.parts[0], known.parts[0], variables))
	}
	merged, ok := merge(variables[is.word], known)
	variables[is.word] = merged
	return ok
}

// leads gives all defs to which a def leads, it among them.
func (s *slow) leads(at place) []place {
	all := []place{at}
	for i := 0; i < len(all); i++ {
		s.look(s.defs[all[i]].Body, all[i].file, &all)
	}
	return all
}

func (s *slow) look(e syntax.Expression, file int, all *[]place) {
	if v, ok := e.(*syntax.Var); ok {
		to := s.stands[place{file, v.Name.At}]
		if s.defs[to] != nil && !slices.Contains(*all, to) {
			*all = append(*all, to)
		}
	}
	for _, part := range e.Parts() {
		s.look(part, file, all)
	}
}

func TestV4ValuesAreOfTheirTypes(t *testing.T) {
	d := dice(13)
	good, bad := 0, 0
	for range 1500 {
		files := d.files()
		types := map[place]string{}
		all, err := infer.Types(files)
		if err != nil {
			t.Fatal(err)
		}
		for _, one := range all {
			types[place{one.File, one.At}] = one.Type
		}
		s := slowOf(files)
		for _, at := range s.sorted() {
			name := s.first[at]
			out, err := Eval(files, at.file, name, 1000)
			if err != nil {
				continue
			}
			if slices.ContainsFunc(s.leads(at), func(to place) bool { return types[to] == "" }) {
				bad++
				continue
			}
			known, ok := readerOf(out).ofValue()
			if !ok || !fits(readerOf(types[at]).ofType(), known, map[string]kind{}) {
				t.Fatalf("%q %d %s: %s is not of the type %s", files, at.file, name, out, types[at])
			}
			good++
		}
	}
	t.Log(good, bad)
	if good < 2000 || bad < 200 {
		t.Errorf("%d %d: these are no good dice", good, bad)
	}
}

// Types with variables in them, and what comes to values of them.
func TestV4TypesWithVariables(t *testing.T) {
	for _, c := range [][3]string{
		{"def main = [];", "[a]", "[]"},
		{"def main = [[], []];", "[[a]]", "[[], []]"},
		{"def main = i(i); def i(x) = x;", "(a) -> a", "fun"},
		{"def main = if true then [] else [?];", "[a]", "[]"},
		{"def main = [fun(x) => x, fun(x) => ?];", "[(a) -> a]", "[fun, fun]"},
		{"def main = let l = [] in if l == [1] then l else l;", "[a]", "[]"},
	} {
		types, err := infer.Types(files(c[0]))
		if err != nil || types[0].Type != c[1] {
			t.Errorf("%s: %v, %v", c[0], types, err)
		}
		if got := told(t, files(c[0]), 0, "main", 10); got != c[2] {
			t.Errorf("%s: %s", c[0], got)
		}
	}
}
