package wire

import (
	"encoding/json"
	"fmt"
	"regexp"
	"slices"
	"strconv"
	"strings"
	"testing"

	"amanuensis/api"
)

// What values are made of, by another library's reckoning.
var (
	modelBlanks = regexp.MustCompile(`^[\t\n\r ]*`)
	modelNumber = regexp.MustCompile(`^-?[0-9]*`)
	modelGood   = regexp.MustCompile(`^-?(0|[1-9][0-9]{0,17})$`)
	modelWord   = regexp.MustCompile(`^(null|true|false)`)
	modelText   = regexp.MustCompile(`^"([^"\\\x00-\x1f]|\\["\\/bfnrt]|\\u([0-9a-ce-fA-CE-F][0-9a-fA-F]{3}|[dD][0-7][0-9a-fA-F]{2}|[dD][89abAB][0-9a-fA-F]{2}\\u[dD][c-fC-F][0-9a-fA-F]{2}))*`)
)

// What may come next.
const (
	wantValue = iota
	wantFirst // a value, or the end of the list
	wantKey
	wantFirstKey // a key, or the end of the map
	wantColon
	wantMore // a `,`, or the end
)

// model reads a text with a stack of its own, and tells where and what is wrong.
type model struct {
	text  string
	at    int
	want  int
	open  []byte             // the lists and maps that are open
	keys  []map[string]error // of those that are maps
	fault api.Errno
}

// slowFault tells what the first fault of a text is, and where; OK, if it has none.
func slowFault(text string) (int, api.Errno) {
	m := model{text: text, want: wantValue}
	for m.fault == api.OK {
		m.at += len(modelBlanks.FindString(text[m.at:]))
		if m.at == len(text) {
			if m.want == wantMore && len(m.open) == 0 {
				return 0, api.OK
			}
			return m.at, api.ErrSyntax
		}
		m.step(text[m.at])
	}
	return m.at, m.fault
}

// step goes on with what begins with a byte.
func (m *model) step(c byte) {
	value := m.want == wantValue || m.want == wantFirst
	key := m.want == wantKey || m.want == wantFirstKey
	last := byte(0)
	if len(m.open) > 0 {
		last = m.open[len(m.open)-1]
	}
	switch {
	case c == ']' && last == '[' && (m.want == wantFirst || m.want == wantMore), c == '}' && last == '{' && (m.want == wantFirstKey || m.want == wantMore):
		m.open, m.keys = m.open[:len(m.open)-1], m.keys[:len(m.keys)-1]
		m.go1(1, wantMore)
	case c == ',' && last == '[' && m.want == wantMore:
		m.go1(1, wantValue)
	case c == ',' && last == '{' && m.want == wantMore:
		m.go1(1, wantKey)
	case c == ':' && m.want == wantColon:
		m.go1(1, wantValue)
	case key && c == '"':
		m.key()
	case value:
		m.value(c)
	default:
		m.fault = api.ErrSyntax
	}
}

func (m *model) go1(bytes, want int) { m.at, m.want = m.at+bytes, want }

// whole goes on behind a text; false, if it is not one.
func (m *model) whole(want int) bool {
	n := len(modelText.FindString(m.text[m.at:]))
	if m.at+n == len(m.text) || m.text[m.at+n] != '"' {
		m.at, m.fault = m.at+n, api.ErrSyntax
		return false
	}
	m.go1(n+1, want)
	return true
}

func (m *model) key() {
	from := m.at
	if !m.whole(wantColon) {
		return
	}
	key := slowText(m.text[from:m.at])
	had := m.keys[len(m.keys)-1]
	if _, ok := had[key]; ok {
		m.at, m.fault = from, api.ErrTwice
	}
	had[key] = nil
}

func (m *model) value(c byte) {
	rest := m.text[m.at:]
	switch {
	case c == '"':
		m.whole(wantMore)
	case c == '[' || c == '{':
		if len(m.open) == api.MaxDeep {
			m.fault = api.ErrFull
			return
		}
		m.open, m.keys = append(m.open, c), append(m.keys, map[string]error{})
		m.go1(1, map[byte]int{'[': wantFirst, '{': wantFirstKey}[c])
	case modelWord.MatchString(rest):
		m.go1(len(modelWord.FindString(rest)), wantMore)
	default:
		n := modelNumber.FindString(rest)
		switch {
		case modelGood.MatchString(n):
			m.go1(len(n), wantMore)
		case n == "-":
			m.at, m.fault = m.at+1, api.ErrSyntax
		default:
			m.fault = api.ErrSyntax
		}
	}
}

// farOff is where bytes of 128 and above are put for the time that encoding/json, which knows characters alone, looks at them; what is drawn has nothing there.
const farOff = 0xF0000

func away(text string) string {
	var b strings.Builder
	for _, c := range []byte(text) {
		if c < 128 {
			b.WriteByte(c)
		} else {
			b.WriteRune(farOff + rune(c))
		}
	}
	return b.String()
}

func back(text string) string {
	var b strings.Builder
	for _, r := range text {
		if r >= farOff && r < farOff+256 {
			b.WriteByte(byte(r - farOff))
		} else {
			b.WriteRune(r)
		}
	}
	return b.String()
}

// slowText gives what a text stands for.
func slowText(quoted string) string {
	var s string
	if err := json.Unmarshal([]byte(away(quoted)), &s); err != nil {
		panic(err)
	}
	return back(s)
}

// slowValue gives the value of a text that is one.
func slowValue(text string) api.Json {
	d := json.NewDecoder(strings.NewReader(away(text)))
	d.UseNumber()
	j, _ := slowNext(d)
	return j
}

// slowNext gives the next value; false at the end of a list or map.
func slowNext(d *json.Decoder) (api.Json, bool) {
	k, err := d.Token()
	if err != nil {
		panic(err)
	}
	switch k := k.(type) {
	case nil:
		return null(), true
	case bool:
		return map[bool]api.Json{true: yes(), false: no()}[k], true
	case json.Number:
		n, err := strconv.Atoi(string(k))
		if err != nil {
			panic(err)
		}
		return num(n), true
	case string:
		return text(back(k)), true
	}
	if k == json.Delim(']') || k == json.Delim('}') {
		return api.Json{}, false
	}
	j := map[json.Token]api.Json{json.Delim('['): list(), json.Delim('{'): joined()}[k]
	for kid, ok := slowNext(d); ok; kid, ok = slowNext(d) {
		if j.Kind == api.JMap {
			j.Keys = append(j.Keys, kid.Text)
			kid, _ = slowNext(d)
		}
		j.Kids = append(j.Kids, kid)
	}
	return j, true
}

// check holds what Parse tells of a text against the model, and Parse of what Print makes of it against the value; and gives what was told.
func check(t *testing.T, in string) string {
	t.Helper()
	j, at, err := Parse(in)
	wantAt, want := slowFault(in)
	if got := errorName(t, err); got != want.Error() || at != wantAt {
		t.Fatalf("%q: %d %s, want %d %v", in, at, got, wantAt, want)
	}
	if err != nil {
		if !empty(j) {
			t.Fatalf("%q: %+v", in, j)
		}
		return want.Error()
	}
	if want := slowValue(in); !same(j, want) {
		t.Fatalf("%q:\ngot  %+v\nwant %+v", in, j, want)
	}
	checkPrint(t, j)
	return "OK"
}

// checkPrint fails if Parse of what Print gives is not the value again, or that text is not the only one that is so without blanks.
func checkPrint(t *testing.T, j api.Json) {
	t.Helper()
	out, err := Print(j)
	if err != nil {
		t.Fatalf("%+v: %v", j, err)
	}
	again, at, err := Parse(out)
	if err != nil || !same(j, again) {
		t.Fatalf("%+v: %q, %d %v, %+v", j, out, at, err, again)
	}
	if twice, err := Print(again); err != nil || twice != out {
		t.Fatalf("%q: %q %v", out, twice, err)
	}
}

// dice gives numbers that look as if by chance, and are the same each time.
type dice uint64

func (d *dice) roll(n int) int {
	*d = *d*6364136223846793005 + 1442695040888963407
	return int(uint64(*d>>33) % uint64(n))
}

func (d *dice) pick(words ...string) string { return words[d.roll(len(words))] }

// bytes gives what a text may stand for.
func (d *dice) bytes() string {
	var b strings.Builder
	for range d.roll(6) {
		if d.roll(4) == 0 {
			b.WriteByte(byte(d.roll(256)))
		} else {
			b.WriteString(d.pick("a", "b", "é", "\u2022", "\U0001F600", "\xff", "\xc3", "\xed\xa0\x80", "\n", "\r\n", "\t", "\x00", "\x1f", "\"", "\\", "/", "\\u0041", "\x7f", "[", "}"))
		}
	}
	return b.String()
}

func (d *dice) key() string {
	if d.roll(3) == 0 {
		return d.bytes()
	}
	return d.pick("a", "b", "c", "", "id", "é", "\n")
}

// json gives a value that Parse can give, with so many levels at most.
func (d *dice) json(levels int) api.Json {
	kind := d.roll(9)
	if levels == 0 {
		kind %= 5
	}
	switch kind {
	case 0:
		return null()
	case 1:
		return api.Json{Kind: api.JBool, Num: d.roll(2)}
	case 2:
		n, _ := strconv.Atoi(d.pick("", "-") + d.pick("0", "7", "42", "100", "999999999999999999", "100000000000000000", fmt.Sprint(d.roll(1<<30))))
		return num(n)
	case 3, 4:
		return text(d.bytes())
	case 5, 6:
		return d.list(levels)
	}
	return d.pairs(levels)
}

func (d *dice) list(levels int) api.Json {
	j := list()
	for range d.roll(5) {
		j.Kids = append(j.Kids, d.json(levels-1))
	}
	return j
}

func (d *dice) pairs(levels int) api.Json {
	j := joined()
	for range d.roll(5) {
		if key := d.key(); !slices.Contains(j.Keys, key) {
			j = joined(j, pair(key, d.json(levels-1)))
		}
	}
	return j
}

// blanks gives some.
func (d *dice) blanks() string {
	return d.pick("", "", "", "", " ", "\n", "\r\n\t", "  ")
}

// written gives a text of a value, one of many.
func (d *dice) written(j api.Json) string {
	switch j.Kind {
	case api.JNum:
		if j.Num == 0 {
			return d.pick("0", "-0")
		}
	case api.JText:
		return d.quoted(j.Text)
	case api.JList, api.JMap:
		var all []string
		for k, kid := range j.Kids {
			part := d.blanks() + d.written(kid) + d.blanks()
			if j.Kind == api.JMap {
				part = d.blanks() + d.quoted(j.Keys[k]) + d.blanks() + ":" + part
			}
			all = append(all, part)
		}
		if j.Kind == api.JList {
			return "[" + d.blanks() + strings.Join(all, ",") + "]"
		}
		return "{" + d.blanks() + strings.Join(all, ",") + "}"
	}
	out, err := Print(j)
	if err != nil {
		panic(err)
	}
	return out
}

// quoted gives a text that stands for another one, with some escapes more than are needed.
func (d *dice) quoted(text string) string {
	var b strings.Builder
	for len(text) > 0 {
		r := []rune(text)[0]
		n := len(string(r))
		if r == '\uFFFD' { // perhaps a byte that is no character
			b.WriteByte(text[0])
			text = text[1:]
			continue
		}
		short, ok := map[rune]string{'"': `\"`, '\\': `\\`, '/': `\/`, '\b': `\b`, '\f': `\f`, '\n': `\n`, '\r': `\r`, '\t': `\t`}[r]
		long := fmt.Sprintf(d.pick(`\u%04x`, `\u%04X`), r)
		if r > 0xFFFF {
			long = fmt.Sprintf(d.pick(`\u%04x\u%04x`, `\u%04X\u%04x`), 0xD800+(r-0x10000)>>10, 0xDC00+(r-0x10000)&0x3FF)
		}
		switch {
		case ok && d.roll(2) == 0:
			b.WriteString(short)
		case r < 32 || r == '"' || r == '\\' || d.roll(4) == 0:
			b.WriteString(long)
		default:
			b.WriteString(text[:n])
		}
		text = text[n:]
	}
	return `"` + b.String() + `"`
}

// strain gives a value some keys that are the same, or lists around it.
func (d *dice) strain(j api.Json) api.Json {
	for k := range j.Kids {
		j.Kids[k] = d.strain(j.Kids[k])
	}
	if n := len(j.Keys); n > 1 && d.roll(4) == 0 {
		j.Keys[d.roll(n)] = j.Keys[d.roll(n)]
	}
	if d.roll(20) == 0 {
		j = nested(35+d.roll(7), j)
	}
	return j
}

// spoil takes something out of a text, puts something in, or cuts it.
func (d *dice) spoil(text string) string {
	for range d.roll(4) {
		from := d.roll(len(text) + 1)
		to := min(len(text), from+d.roll(3)*d.roll(4))
		put := d.pick("", "", ",", ":", "\"", "\\", "[", "]", "{", "}", "0", "00", "-", "9999999999", "null", "nul", "t", "e", " ", "\x00", "\x1f", "\xff", `\u`, `\ud83d`, `\udE00`, `\u00e9`, `"a":`, `"a"`, ",\"a\":1", "é", ".", text[from:to]+text[from:to], strings.Repeat("[", 39), strings.Repeat(`{"":`, 39))
		text = text[:from] + put + text[to:]
	}
	if d.roll(5) == 0 {
		text = text[:d.roll(len(text)+1)]
	}
	return text
}

// Texts of values that are drawn are these.
func TestJ1DrawnValues(t *testing.T) {
	d := dice(1)
	for range 20000 {
		j := d.json(4)
		in := d.blanks() + d.written(j) + d.blanks()
		if got, _, _ := Parse(in); check(t, in) != "OK" || !same(got, j) {
			t.Fatalf("%q:\ngot  %+v\nwant %+v", in, got, j)
		}
	}
}

func TestJ2DrawnTexts(t *testing.T) {
	d := dice(2)
	seen := map[string]int{}
	for range 60000 {
		seen[check(t, d.spoil(d.written(d.strain(d.json(3)))))]++
	}
	if seen["OK"] < 1000 || seen["ErrSyntax"] < 1000 || seen["ErrTwice"] < 500 || seen["ErrFull"] < 500 {
		t.Error(seen)
	}
}

// All bytes, and all that texts are made of, in any order.
func TestJ2DrawnBytes(t *testing.T) {
	d := dice(3)
	for range 30000 {
		var b strings.Builder
		b.WriteString(d.pick("", "\"", "[", "{\"", "["))
		for range d.roll(12) {
			b.WriteString(d.pick(string([]byte{byte(d.roll(256))}), "\"", "\\", ",", "1", "0", "-", "[", "]", "{", "}", ":", "null", "true", " ", "\"a\"", "\"b\":", `\u00`, `\ud800`, `\udc00`, "a"))
		}
		check(t, b.String())
	}
}

// every calls do with all rows of so many parts at most.
func every(parts []string, most int, do func(text string)) {
	rows := []string{""}
	for range most + 1 {
		var longer []string
		for _, r := range rows {
			do(r)
			for _, p := range parts {
				longer = append(longer, r+p)
			}
		}
		rows = longer
	}
}

func TestJ2EveryShortText(t *testing.T) {
	every([]string{"[", "]", "{", "}", ",", ":", "\"\"", "\"a\"", "1", " "}, 4, func(in string) { check(t, in) })
	every([]string{"{", "}", ",", "\"\":", "\"a\":1", "\"\\u0061\":2"}, 5, func(in string) { check(t, in) })
	every([]string{"\"", "\\", "u", "d", "8", "0", "c"}, 4, func(in string) { check(t, in) })
	every([]string{`\ud800`, `\udc00`, `\u00`, "00", `\`, `"`, "d"}, 4, func(in string) { check(t, `"`+in) })
	every([]string{"-", "0", "1", "00000000", "99999999", "[", ","}, 4, func(in string) { check(t, in) })
	every([]string{"n", "u", "l", "t", "null", "[", ","}, 4, func(in string) { check(t, in) })
}

// canEnd tells whether a text can be gone on with, by trying.
func canEnd(text string) bool {
	for _, part := range []string{"", "1", `"`, `":1`, `"":1`, `:1`} {
		ends := []string{""}
		for range 8 {
			var longer []string
			for _, end := range ends {
				if json.Valid([]byte(text + part + end)) {
					return true
				}
				if len(end) < strings.Count(text, "[")+strings.Count(text, "{") {
					longer = append(longer, end+"]", end+"}")
				}
			}
			ends = longer
		}
	}
	return false
}

// Where nothing can be gone on with: what stands ahead can be made a value, but no longer with the next byte.
func TestJ2PlacesByTrying(t *testing.T) {
	open := []string{""}
	for range 6 {
		var longer []string
		for _, in := range open {
			for _, c := range []string{"[", "]", "{", "}", ",", ":", `"`, "1", "-", " "} {
				if canEnd(in + c) {
					longer = append(longer, in+c)
				} else {
					wrong(t, in+c, len(in), "ErrSyntax")
					wrong(t, in+c+"1", len(in), "ErrSyntax")
				}
			}
			if json.Valid([]byte(in)) {
				if _, _, err := Parse(in); err != nil {
					t.Errorf("%q: %v", in, err)
				}
			} else {
				wrong(t, in, len(in), "ErrSyntax")
			}
		}
		open = longer
	}
	if len(open) < 1000 {
		t.Error(len(open))
	}
}

// slowPrint tells what is wrong with a value: its own faults, then those of its Kids.
func slowPrint(j api.Json, levels int) api.Errno {
	bare := j
	ok := true
	switch j.Kind {
	case api.JNull:
	case api.JBool:
		ok = j.Num == 0 || j.Num == 1
		bare.Num = 0
	case api.JNum:
		ok = len(strings.TrimPrefix(strconv.Itoa(j.Num), "-")) <= 18
		bare.Num = 0
	case api.JText:
		bare.Text = ""
	case api.JList:
		bare.Kids = nil
	case api.JMap:
		ok = len(j.Keys) == len(j.Kids)
		bare.Keys, bare.Kids = nil, nil
	default:
		return api.ErrSyntax
	}
	if bare.Kind = 0; !ok || !empty(bare) {
		return api.ErrSyntax
	}
	if j.Kind >= api.JList && levels == 0 {
		return api.ErrFull
	}
	for k, kid := range j.Kids {
		if j.Kind == api.JMap && slices.Contains(j.Keys[:k], j.Keys[k]) {
			return api.ErrTwice
		}
		if e := slowPrint(kid, levels-1); e != api.OK {
			return e
		}
	}
	return api.OK
}

// damage gives a value in which something may be wrong.
func (d *dice) damage(j api.Json) api.Json {
	j.Keys, j.Kids = slices.Clone(j.Keys), slices.Clone(j.Kids)
	for k := range j.Kids {
		if d.roll(3) == 0 {
			j.Kids[k] = d.damage(j.Kids[k])
		}
	}
	if d.roll(2) > 0 {
		return j
	}
	switch d.roll(9) {
	case 0:
		j.Kind = d.roll(9) - 1
	case 1:
		j.Num = []int{1, 2, -1, 1000000000000000000, -1000000000000000000, 999999999999999999}[d.roll(6)]
	case 2:
		j.Text = d.bytes()
	case 3:
		j.Keys = append(j.Keys, d.key())
	case 4:
		j.Kids = append(j.Kids, null())
	case 5, 6:
		if len(j.Keys) > 1 {
			j.Keys[d.roll(len(j.Keys))] = j.Keys[d.roll(len(j.Keys))]
		}
	case 7:
		j = nested(37+d.roll(5), j)
	case 8:
		if n := len(j.Kids); n > 0 {
			j.Kids = j.Kids[:n-1]
		}
	}
	return j
}

func TestJ3DrawnValues(t *testing.T) {
	d := dice(4)
	seen := map[api.Errno]int{}
	for range 60000 {
		j := d.damage(d.json(4))
		want := slowPrint(j, api.MaxDeep)
		seen[want]++
		if want == api.OK {
			checkPrint(t, j)
		} else {
			refused(t, j, want.Error())
		}
	}
	for _, e := range []api.Errno{api.OK, api.ErrSyntax, api.ErrTwice, api.ErrFull} {
		if seen[e] < 500 {
			t.Error(seen)
		}
	}
}

// slowOut gives the text of a value, byte by byte as the chapter has it.
func slowOut(j api.Json) string {
	quote := func(text string) string {
		out := ""
		for _, c := range []byte(text) {
			short, ok := map[byte]string{34: `\"`, 92: `\\`, 10: `\n`, 13: `\r`, 9: `\t`}[c]
			switch {
			case ok:
				out += short
			case c < 32:
				out += fmt.Sprintf(`\u%04x`, c)
			default:
				out += string([]byte{c})
			}
		}
		return `"` + out + `"`
	}
	var all []string
	for k, kid := range j.Kids {
		if j.Kind == api.JMap {
			all = append(all, quote(j.Keys[k])+":"+slowOut(kid))
		} else {
			all = append(all, slowOut(kid))
		}
	}
	row := strings.Join(all, ",")
	return []string{"null", []string{"false", "true"}[j.Num&1], fmt.Sprint(j.Num), quote(j.Text), "[" + row + "]", "{" + row + "}"}[j.Kind]
}

// What Print gives is a value for others, too, without blanks and with the bytes that are told.
func TestJ3DrawnTexts(t *testing.T) {
	d := dice(5)
	for range 20000 {
		j := d.json(4)
		out, err := Print(j)
		if err != nil || !same(slowValue(out), j) {
			t.Fatalf("%+v: %q %v", j, out, err)
		}
		if want := slowOut(j); out != want {
			t.Fatalf("got  %q\nwant %q", out, want)
		}
	}
}
