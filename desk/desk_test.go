package desk

import (
	"fmt"
	"regexp"
	"strconv"
	"strings"
	"testing"

	"amanuensis/api"
)

// quote gives a text as a message has it.
func quote(s string) string {
	var out strings.Builder
	for i := range len(s) {
		switch c := s[i]; {
		case c == '"' || c == '\\':
			out.WriteString(`\` + s[i:i+1])
		case c == '\n':
			out.WriteString(`\n`)
		case c == '\r':
			out.WriteString(`\r`)
		case c == '\t':
			out.WriteString(`\t`)
		case c < 32:
			fmt.Fprintf(&out, `\u%04x`, c)
		default:
			out.WriteByte(c)
		}
	}
	return `"` + out.String() + `"`
}

// opens, changes and cancels are notes; asks is a request with these params.
func opens(file, text string) string {
	return `{"method":"open","params":{"file":` + quote(file) + `,"text":` + quote(text) + `}}`
}

func changes(file string, version, from, to int, text string) string {
	return fmt.Sprintf(`{"method":"change","params":{"file":%s,"version":%d,"from":%d,"to":%d,"text":%s}}`, quote(file), version, from, to, quote(text))
}

func cancels(id int) string { return fmt.Sprintf(`{"method":"cancel","params":{"id":%d}}`, id) }

func asks(id int, method, params string) string {
	return fmt.Sprintf(`{"id":%d,"method":%s,"params":{%s}}`, id, quote(method), params)
}

// framed puts a body into a frame.
func framed(body string) string { return fmt.Sprintf("Content-Length: %d\r\n\r\n%s", len(body), body) }

// say pushes bodies, each in a frame of its own.
func say(t *testing.T, d *Desk, bodies ...string) {
	t.Helper()
	for _, body := range bodies {
		if err := d.Push(framed(body)); err != nil {
			t.Fatalf("%q: %v", body, err)
		}
	}
}

var frameHead = regexp.MustCompile(`^Content-Length: (0|[1-9][0-9]*)\r\n\r\n`)

// bodies takes what went out apart.
func bodies(t *testing.T, out string) []string {
	t.Helper()
	var all []string
	for out != "" {
		m := frameHead.FindStringSubmatch(out)
		if m == nil {
			t.Fatalf("no frame: %.100q", out)
		}
		n, _ := strconv.Atoi(m[1])
		out = out[len(m[0]):]
		if n > len(out) {
			t.Fatalf("a frame of %d bytes: %.100q", n, out)
		}
		all, out = append(all, out[:n]), out[n:]
	}
	return all
}

// answers works so many requests, and gives the bodies that go out, side by side.
func answers(t *testing.T, d *Desk, n int) string {
	t.Helper()
	return strings.Join(bodies(t, d.Work(n)), " ")
}

// play says bodies to a new desk, one behind the other, and holds what goes out then against what is wanted. A number among them: so many are worked, and how many wait then is told.
func play(t *testing.T, want string, steps ...string) {
	t.Helper()
	d := New()
	var got []string
	for _, s := range steps {
		n, err := strconv.Atoi(s)
		if err != nil {
			say(t, d, s)
			continue
		}
		got = append(got, bodies(t, d.Work(n))...)
		got = append(got, fmt.Sprintf("(%d)", d.Waiting()))
	}
	got = append(got, bodies(t, d.Work(d.Waiting()))...)
	if s := strings.Join(got, " "); s != want {
		t.Errorf("%.400q:\ngot  %s\nwant %s", steps, s, want)
	}
}

// wrong gives the answer that tells an error.
func wrong(id int, e api.Errno) string { return fmt.Sprintf(`{"id":%d,"error":"%v"}`, id, e) }

// right gives the answer that tells a result.
func right(id int, result string) string { return fmt.Sprintf(`{"id":%d,"result":%s}`, id, result) }

// inA is what a request of the file a asks with at least.
const inA = `"file":"a"`

func TestD1BeginsWithoutFiles(t *testing.T) {
	d := New()
	if d.Waiting() != 0 || d.Work(1) != "" {
		t.Error("something waits")
	}
	play(t, wrong(1, api.ErrRange)+" "+wrong(2, api.ErrRange), asks(1, "notes", inA), asks(2, "notes", `"file":""`))
}

// Bodies that are no messages, and look as if they opened a file, or asked.
func TestD1PassedOver(t *testing.T) {
	open := `"params":{"file":"a","text":""}`
	for _, body := range []string{
		"", " ", "{", "nul", `{"method":"open",` + open, `{"method":"open",` + open + `}}`, `{"method":"open",` + open + `,}`, // no values
		`{"method":"open","method":"open",` + open + `}`, `{"method":"open","params":{"file":"a","file":"a","text":""}}`,
		`{"method":"open","x":` + strings.Repeat("[", api.MaxDeep) + strings.Repeat("]", api.MaxDeep) + "," + open + "}",
		"null", " 1", `"open"`, "[]", `["method","open"]`, `[{"method":"open",` + open + `}]`, // no maps
		"{" + open + "}", `{"Method":"open",` + open + `}`, `{"params":{"method":"open","file":"a","text":""}}`, `{"id":1,` + open + "}", // no method
		`{"method":null,` + open + "}", `{"method":1,` + open + "}", `{"method":["open"],` + open + "}", `{"id":1,"method":{},` + open + "}", // no text
		`{"method":"opens",` + open + "}", `{"method":"Open",` + open + "}", `{"method":"",` + open + "}", // none of the notes
		`{"method":"open","id":null,` + open + "}", `{"method":"open","id":"1",` + open + "}", // any other id
		`{"method":"open"}`, `{"method":"open","file":"a","text":""}`, `{"method":"open","params":null}`, // nothing is given
		`{"method":"open","params":["file","a","text",""]}`, `{"method":"open","params":"file"}`, `{"method":"open","params":[{"file":"a","text":""}]}`,
		`{"method":"open","params":{}}`, `{"method":"open","params":{"file":"a"}}`, `{"method":"open","params":{"text":""}}`, // something is missing
		`{"method":"open","params":{"file":"a","text":null}}`, `{"method":"open","params":{"file":"a","text":1}}`, // of another kind
		`{"method":"open","params":{"file":["a"],"text":""}}`, `{"method":"open","params":{"file":1,"text":""}}`,
	} {
		play(t, "(0) "+wrong(9, api.ErrRange), body, "0", asks(9, "layout", inA))
	}
}

// Messages in other words: keys in another order, others beside them, blanks, escapes.
func TestD1OtherWords(t *testing.T) {
	for _, body := range []string{
		`{"params":{"text":"","file":"a"},"method":"open"}`,
		" {\r\n\t\"method\" : \"open\" , \"params\" : { \"file\" : \"a\" , \"text\" : \"\" } } ",
		`{"\u006dethod":"op\u0065n","params":{"fil\u0065":"\u0061","text":""},"jsonrpc":"2.0","x":[null]}`,
		`{"method":"open","params":{"file":"a","text":"","version":7,"id":3,"at":null}}`,
	} {
		play(t, "(0) "+right(9, `""`), body, "0", `{"x":{},"params":{"name":[],"file":"a"},"method":"layout","id" : 9}`)
	}
}

func TestD1Ids(t *testing.T) {
	for id, told := range map[string]string{"0": "0", "-7": "-7", "-0": "0", " 12 ": "12", "999999999999999999": "999999999999999999", "-999999999999999999": "-999999999999999999"} {
		play(t, `(1) {"id":`+told+`,"error":"ErrName"}`, `{"method":"x","id":`+id+`}`, "0")
	}
	for _, id := range []string{"null", "true", "false", `""`, `"1"`, "[]", "[1]", "{}", `{"id":1}`, "1000000000000000000", "01", "1.0", "1e3"} {
		play(t, "(0)", `{"id":`+id+`,"method":"layout","params":{"file":"a"}}`, "0")
	}
}

// With an id a note is a request of a method that is none, and without one a request is a note that is none.
func TestD1NotesAndRequests(t *testing.T) {
	withID := func(note string) string { return `{"id":1,` + note[1:] }
	for _, note := range []string{opens("b", ""), changes("a", 5, 0, 0, "x"), cancels(2)} {
		play(t, right(2, `""`)+" "+wrong(1, api.ErrName)+" "+right(3, `""`)+" "+wrong(4, api.ErrRange),
			opens("a", ""), asks(2, "layout", inA), withID(note), asks(3, "layout", inA), asks(4, "layout", `"file":"b"`))
	}
	for _, method := range []string{"notes", "layout", "eval", "x"} {
		play(t, "(0) "+right(1, `""`), opens("a", ""), `{"method":"`+method+`","params":{"file":"a","name":"x","fuel":1,"at":0}}`, "0", asks(1, "layout", inA))
	}
}

func TestD1Open(t *testing.T) {
	full := strings.Repeat(" ", api.MaxFile)
	word := strings.Repeat("w", api.MaxWord)
	for _, c := range []struct {
		name, text string
		done       bool
	}{
		{"b", "", true},
		{"b", full, true},
		{"b", full + " ", false},
		{"b", "\x00\xff\" é\\", true},
		{word, "", true},
		{word + "w", "", false},
		{"Ω_1", "", true},
		{"", "", false},
		{"def", "", false},
		{"1", "", false},
		{"b ", "", false},
		{"b.c", "", false},
		{"a", "", false},
		{"a", "def y = 2;", false},
	} {
		want := wrong(2, api.ErrRange)
		if c.done || c.name == "a" {
			want = right(2, "[0,0,0]")
		}
		play(t, right(1, `"def x = 1;\n"`)+" "+want, opens("a", "def x = 1;"), opens(c.name, c.text), asks(1, "layout", inA), asks(2, "place", `"at":0,"file":`+quote(c.name)))
	}
}

// One file more than there may be is none; those that were refused do not count.
func TestD1OpenTooMany(t *testing.T) {
	d := New()
	for i := range api.MaxFiles {
		say(t, d, opens("1", ""), opens("n"+strconv.Itoa(i), "def x = "+strconv.Itoa(i)+";"), opens("n0", "def x = 77;"))
	}
	say(t, d, opens("more", ""))
	for i := range api.MaxFiles {
		say(t, d, asks(i, "eval", fmt.Sprintf(`"file":"n%d","name":"x","fuel":1`, i)))
	}
	say(t, d, asks(16, "layout", `"file":"more"`))
	for i := range api.MaxFiles {
		if got, want := answers(t, d, 1), right(i, quote(strconv.Itoa(i))); got != want {
			t.Errorf("%s, want %s", got, want)
		}
	}
	if got := answers(t, d, 1); got != wrong(16, api.ErrRange) {
		t.Error(got)
	}
}

// A file that is opened is the last one.
func TestD1OpenIsLast(t *testing.T) {
	use := "use b.x; def y = x;"
	play(t, right(1, `[["c",6],["c",17],["b",8],["a",6],["a",17]]`),
		opens("c", use), opens("b", "pub def x = 1;"), opens("a", use), asks(1, "uses", `"file":"a","at":6`))
}

func TestD1Change(t *testing.T) {
	was := "def x = 1;\n" // as a layout has it
	for _, c := range []struct {
		note, want string
	}{
		{changes("a", 1, 8, 9, "23"), "def x = 23;\n"},
		{changes("a", 999999999999999999, 0, 10, ""), ""},
		{changes("a", 1, 10, 10, "\n-- é\n"), "def x = 1;\n-- é\n"},
		{changes("a", 1, 0, 0, ""), was},
		{changes("a", 1, 0, 10, "def y = "+strings.Repeat("7", 10)+";"), "def y = 7777777777;\n"},
		// a version that is not above
		{changes("a", 0, 8, 9, "2"), was},
		{changes("a", -1, 8, 9, "2"), was},
		{changes("a", -999999999999999999, 8, 9, "2"), was},
		// no such file
		{changes("b", 1, 8, 9, "2"), was},
		{changes("", 1, 8, 9, "2"), was},
		{changes("A", 1, 8, 9, "2"), was},
		// spans that can't be
		{changes("a", 1, -1, 0, "2"), was},
		{changes("a", 1, 9, 8, "2"), was},
		{changes("a", 1, 0, 11, ""), was},
		{changes("a", 1, 11, 11, " "), was},
		{changes("a", 1, -999999999999999999, 999999999999999999, ""), was},
		// too long
		{changes("a", 1, 0, 0, strings.Repeat(" ", api.MaxFile-9)), was},
		{changes("a", 1, 10, 10, strings.Repeat(" ", api.MaxFile-10)), was},
	} {
		play(t, right(1, quote(c.want)), opens("a", "def x = 1;"), c.note, asks(1, "layout", inA))
	}
}

// What is missing, or of another kind.
func TestD1ChangeLacks(t *testing.T) {
	parts := []string{`"file":"a"`, `"version":1`, `"from":0`, `"to":1`, `"text":"x"`}
	try := func(parts []string) {
		t.Helper()
		play(t, right(1, `"def x = 1;\n"`), opens("a", "def x = 1;"), `{"method":"change","params":{`+strings.Join(parts, ",")+"}}", asks(1, "layout", inA))
	}
	for i, part := range parts {
		var rest []string
		for k, other := range parts {
			if k != i {
				rest = append(rest, other)
			}
		}
		try(rest)
		key, _, _ := strings.Cut(part, ":")
		for _, other := range []string{"null", "true", "[]", "{}", `["a"]`, "[1]"} {
			try(append(rest, key+":"+other))
		}
		if strings.HasSuffix(part, `"`) {
			try(append(rest, key+":1"))
		} else {
			try(append(rest, key+`:"1"`))
		}
	}
}

// Versions go up, and are each file's own; what was not done leaves the version as it was.
func TestD1Versions(t *testing.T) {
	var want, steps []string
	step := func(note, a, b string) {
		id := len(steps)
		steps = append(steps, note, asks(id, "layout", inA), asks(id+1, "layout", `"file":"b"`), "2")
		want = append(want, right(id, quote(a)), right(id+1, quote(b)), "(0)")
	}
	one := func(n string) string { return "-- " + n + "\n" }
	step(opens("a", "-- 0"), one("0"), one("0"))
	step(changes("a", 5, 3, 4, "5"), one("5"), one("0"))
	step(changes("a", 5, 3, 4, "6"), one("5"), one("0"))
	step(changes("a", 4, 3, 4, "6"), one("5"), one("0"))
	step(changes("b", 1, 3, 4, "1"), one("5"), one("1"))
	step(changes("a", 9, 3, 9, "6"), one("5"), one("1")) // it could not be done
	step(changes("a", 6, 3, 4, "6"), one("6"), one("1"))
	step(changes("a", 7, 3, 3, ""), one("6"), one("1"))
	step(changes("a", 7, 3, 4, "7"), one("6"), one("1"))
	step(opens("a", "-- 9"), one("6"), one("1")) // it is there already
	step(changes("a", 1, 3, 4, "8"), one("6"), one("1"))
	step(changes("a", 8, 3, 4, "8"), one("8"), one("1"))
	step(changes("b", 999999999999999999, 3, 4, "8"), one("8"), one("8"))
	step(changes("b", 999999999999999999, 3, 4, "9"), one("8"), one("8"))
	play(t, strings.Join(want, " "), append([]string{opens("b", "-- 0")}, steps...)...)
}

func TestD1Cancel(t *testing.T) {
	ask := func(id int) string { return asks(id, "layout", inA) }
	ok := func(id int) string { return right(id, `""`) }
	cancelled := func(id int) string { return wrong(id, api.ErrCancel) }
	open := opens("a", "")
	// it waits all the same
	play(t, "(1) "+cancelled(1), open, ask(1), cancels(1), "0")
	// of none that waits; of one that comes behind
	play(t, ok(1)+" (0) "+ok(1), open, cancels(1), ask(1), cancels(2), "1", cancels(1), ask(1))
	// of several, not of others
	play(t, strings.Join([]string{cancelled(1), ok(2), cancelled(1), ok(-1), "(1)", cancelled(1)}, " "), open, ask(1), ask(2), ask(1), ask(-1), ask(1), cancels(1), "4")
	// some of them are gone, others come
	play(t, strings.Join([]string{ok(1), "(1)", cancelled(1), ok(1)}, " "), open, ask(1), ask(1), "1", cancels(1), ask(1))
	// twice
	play(t, strings.Join([]string{cancelled(1), "(1)", cancelled(1), cancelled(1)}, " "), open, ask(1), ask(1), cancels(1), "1", ask(1), cancels(1), cancels(1))
	play(t, strings.Join([]string{cancelled(1), cancelled(1), ok(1)}, " "), open, ask(1), cancels(1), ask(1), cancels(1), ask(1))
	// 0 and -0 are one number
	play(t, cancelled(0), open, ask(0), `{"method":"cancel","params":{"id":-0}}`)
	// what lacks the id, or has another one
	for _, params := range []string{"{}", `{"id":null}`, `{"id":"1"}`, `{"id":[1]}`, "null", "1", "[1]", `{"ID":1}`} {
		play(t, ok(1)+" "+ok(0), open, ask(1), ask(0), `{"method":"cancel","params":`+params+"}")
	}
	play(t, ok(1)+" "+ok(0), open, ask(1), ask(0), `{"method":"cancel"}`)
	// cancelled counts ahead of all else
	play(t, strings.Join([]string{cancelled(1), cancelled(1), cancelled(1), cancelled(1)}, " "),
		open, asks(1, "x", ""), asks(1, "layout", ""), asks(1, "layout", `"file":"b"`), ask(1), changes("a", 1, 0, 0, " "), cancels(1))
}

// Errors of frames: what is whole ahead of one is looked at, what stands behind it is not, and it stays.
func TestD1ErrorsOfFrames(t *testing.T) {
	for bad, e := range map[string]api.Errno{"bad\r\n": api.ErrSyntax, "\r\n": api.ErrSyntax, "Content-Length: x\r\n": api.ErrSyntax, strings.Repeat("x", 1001): api.ErrFull} {
		d := New()
		first := framed(opens("a", "")) + framed(asks(1, "layout", inA))
		if err := d.Push(first + bad + framed(asks(2, "layout", inA))); err != e {
			t.Errorf("%.20q: %v, want %v", bad, err, e)
		}
		if d.Waiting() != 1 {
			t.Errorf("%.20q: %d wait", bad, d.Waiting())
		}
		for _, more := range []string{"", framed(changes("a", 1, 0, 0, " ")), framed(asks(3, "layout", inA)), framed(cancels(1)), "\r\n\r\n"} {
			if err := d.Push(more); err != e || d.Waiting() != 1 {
				t.Errorf("%.20q, %q: %v, %d wait", bad, more, err, d.Waiting())
			}
		}
		if got := answers(t, d, 5); got != right(1, `""`) || d.Waiting() != 0 {
			t.Errorf("%.20q: %s", bad, got)
		}
	}
}

// Frames may have other lines, and bodies may come piece by piece.
func TestD1Frames(t *testing.T) {
	d := New()
	body := opens("a", "def x = 1;")
	ask := asks(1, "layout", inA)
	for _, piece := range []string{"X: y\r\nContent-", "Length: 1\r\nContent-Length: " + strconv.Itoa(len(body)) + "\r\n", "\r\n", body[:20], body[20:] + framed(ask)[:30], framed(ask)[30:] + framed("") + "Content"} {
		if err := d.Push(piece); err != nil {
			t.Fatal(err)
		}
	}
	if got := answers(t, d, 1); got != right(1, `"def x = 1;\n"`) {
		t.Error(got)
	}
}
