package desk

import (
	"fmt"
	"strconv"
	"strings"

	"amanuensis/api"
	"amanuensis/lex"
)

// dice gives numbers that look as if by chance, and are the same each time.
type dice uint64

func (d *dice) roll(n int) int {
	*d = *d*6364136223846793005 + 1442695040888963407
	return int(uint64(*d>>33) % uint64(n))
}

func (d *dice) one(all ...string) string { return all[d.roll(len(all))] }

// step is a body that comes, or, if that is empty, how many requests are worked.
type step struct {
	body string
	n    int
}

// exchange gives steps, the last of which works all that waits.
func (d *dice) exchange(most int) []step {
	w := &writer{dice: d, texts: map[string]string{}, versions: map[string]int{}}
	var all []step
	for range d.roll(5) {
		all = append(all, step{body: w.open()})
	}
	for range d.roll(most) {
		switch d.roll(12) {
		case 0:
			all = append(all, step{body: w.open()})
		case 1, 2:
			all = append(all, step{body: w.change()})
		case 3:
			all = append(all, step{body: cancels(d.roll(6))})
		case 4, 5:
			all = append(all, step{n: d.roll(4) - 1})
		case 6:
			all = append(all, step{body: d.spoil(w.any())})
		default:
			all = append(all, step{body: w.ask()})
		}
	}
	return append(all, step{n: 1000})
}

// writer writes messages; it knows about what the files are by then.
type writer struct {
	*dice
	texts    map[string]string
	versions map[string]int
}

func (w *writer) file() string { return w.one("a", "a", "a", "b", "b", "é") }

func (w *writer) text() string {
	return w.one(
		"def f(x) = x + 1; def g = f(2); def k = ?;",
		"use b.x as y; pub def f(p) = let l = p in y(l, f); def two = [f, ?];",
		"pub def x(n) = if n == 0 then 1 else n * x(n - 1); def k = x(4); -- é",
		"use a.f; pub use a.f as g; def bad = 1 + true; def l = l; def h = ? + f(1);",
		"def x = \"é\\n😀\"; def y = [x, \"\"]; pub def z = x ++ x;",
		"{- so -} def a(b, c)=[b ,c];\ndef d = a(1, ?) == a(2, 3);",
		"def 1 = ; use ; $ \x01\xff \"\r\n", "")
}

func (w *writer) open() string {
	name, text := w.file(), w.text()
	if w.roll(10) == 0 {
		name = w.one("use", "", "1", strings.Repeat("w", api.MaxWord+1))
	}
	if w.roll(30) == 0 {
		text = strings.Repeat(" ", api.MaxFile+1)
	} else if _, ok := w.texts[name]; !ok && lex.Name(name) {
		w.texts[name] = text
	}
	return opens(name, text)
}

// change gives one of a piece of a file, which seldom can't be.
func (w *writer) change() string {
	name := w.file()
	text := w.texts[name]
	from := w.roll(len(text) + 1)
	to := from
	if tokens := lex.Tokens(text); len(tokens) > 0 && w.roll(4) > 0 {
		k := tokens[w.roll(len(tokens))]
		from, to = k.At, k.At+k.Len
	}
	put := w.one("", " ", "x", "f", "1", "true", "?", "(", "; def x = 7", "\"s\"", "-- é\n")
	version := w.versions[name] + w.roll(4)
	switch w.roll(12) {
	case 0:
		from, to = to+1, from
	case 1:
		to = len(text) + 1
	case 2:
		put = strings.Repeat(" ", api.MaxFile)
	}
	if _, ok := w.texts[name]; ok && from >= 0 && from <= to && to <= len(text) && len(put) < 100 && version > w.versions[name] {
		w.texts[name], w.versions[name] = text[:from]+put+text[to:], version
	}
	return changes(name, version, from, to, put)
}

// at gives a place in a file, often that of a name or a `?`.
func (w *writer) at(text string) int {
	var places []int
	for _, k := range lex.Tokens(text) {
		if k.Kind == api.TName || text[k.At] == '?' {
			places = append(places, k.At)
		}
	}
	if len(places) == 0 || w.roll(4) == 0 {
		return w.roll(len(text)+4) - 2
	}
	return places[w.roll(len(places))]
}

func (w *writer) ask() string {
	file := w.file()
	method := w.one("notes", "types", "find", "find", "uses", "place", "rename", "rename", "complete", "complete", "layout", "colours", "eval", "eval", "eval", w.one("hover", "open", "change", "cancel", ""))
	at := w.at(w.texts[file])
	if method == "complete" && strings.Contains(w.texts[file], "?") && w.roll(3) > 0 {
		at = strings.Index(w.texts[file], "?")
	}
	if w.roll(12) == 0 {
		file = w.one("q", "")
	}
	name := w.one("x", "y", "k", "g", "f", "d", "l", "é2", "use")
	if _, rest, ok := strings.Cut(w.texts[file][w.roll(len(w.texts[file])+1):], "def "); ok && method == "eval" {
		name = rest[:lex.First(rest).Len]
	}
	params := fmt.Sprintf(`"file":%s,"at":%d,"name":%s,"fuel":%s`, quote(file), at, quote(name), w.one("1", "5", "100", "100", "100", "10000", "10001", "-1"))
	if w.roll(9) == 0 {
		parts := strings.SplitAfter(params, ",")
		k := w.roll(len(parts))
		parts[k] = w.one("", strings.Replace(parts[k], ":", `":"`, 1))
		params = strings.TrimSuffix(strings.Join(parts, ""), ",")
		params = strings.ReplaceAll(params, `"":"`, `2":`)
	}
	return asks(w.roll(6), method, params)
}

func (w *writer) any() string {
	switch w.roll(6) {
	case 0:
		return w.open()
	case 1:
		return w.change()
	case 2:
		return cancels(w.roll(6))
	}
	return w.ask()
}

// spoil makes a message another one, or none.
func (d *dice) spoil(body string) string {
	switch d.roll(8) {
	case 0:
		return body[:d.roll(len(body))] + "}"
	case 1:
		at := d.roll(len(body))
		return body[:at] + body[at+1:]
	case 2:
		return strings.Replace(body, `"params"`, `"no"`, 1)
	case 3:
		return `{"id":` + d.one("null", `"1"`, "[1]", "{}", "true", "1.5", "-0", strconv.Itoa(d.roll(6))) + `,` + body[1:]
	case 4:
		return strings.Replace(body, `"id":`, `"id":`+d.one("-", "0", `"`), 1)
	case 5:
		return strings.NewReplacer(":", " : ", ",", "\n,\t", "method", `m\u0065thod`).Replace(body)
	case 6:
		return strings.Replace(body, `"method":"`, `"method":`+d.one(`["`, `"`, `1,"x":"`), 1)
	}
	return d.one("null", " 7", "[]", "{}", `"x"`, "[{}]", `{"method":"open"}`, `{"method":null,"id":1}`, " ")
}
