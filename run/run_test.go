package run

import (
	"fmt"
	"strings"
	"testing"

	"amanuensis/api"
)

// quote gives the TText that stands for a text; every byte below 32, and 127, has an escape there.
func quote(s string) string {
	var out strings.Builder
	for i := range len(s) {
		switch c := s[i]; {
		case c == '"' || c == '\\':
			out.WriteString(`\` + s[i:i+1])
		case c == '\n':
			out.WriteString(`\n`)
		case c == '\t':
			out.WriteString(`\t`)
		case c < 32 || c == 127:
			fmt.Fprintf(&out, `\u{%x}`, c)
		default:
			out.WriteByte(c)
		}
	}
	return `"` + out.String() + `"`
}

// inMessage gives a text as a message has it.
func inMessage(s string) string {
	return strings.NewReplacer(`\u{d}`, `\r`, `\u{1}`, `\u0001`, `\u{7f}`, "\x7f").Replace(quote(s))
}

// framed puts a body into a frame.
func framed(body string) string { return fmt.Sprintf("Content-Length: %d\r\n\r\n%s", len(body), body) }

// push, note and work give lines, without their ends.
func push(text string) string { return "push " + quote(text) }

func note(body string) string { return "note " + quote(body) }

func work(n int) string { return fmt.Sprintf("work %d", n) }

// opens, changes and cancels are bodies of notes; asks is one of a request with these params.
func opens(file, text string) string {
	return `{"method":"open","params":{"file":` + inMessage(file) + `,"text":` + inMessage(text) + `}}`
}

func changes(file string, version, from, to int, text string) string {
	return fmt.Sprintf(`{"method":"change","params":{"file":%s,"version":%d,"from":%d,"to":%d,"text":%s}}`, inMessage(file), version, from, to, inMessage(text))
}

func cancels(id int) string { return fmt.Sprintf(`{"method":"cancel","params":{"id":%d}}`, id) }

func asks(id int, method, params string) string {
	return fmt.Sprintf(`{"id":%d,"method":%s,"params":{%s}}`, id, inMessage(method), params)
}

// inA is what a request of the file a asks with at least.
const inA = `"file":"a"`

// right and fails give the lines that tell an answer; refused the one that tells an error of a line; done the one that ends what was worked.
func right(id int, result string) string {
	return quote(fmt.Sprintf(`{"id":%d,"result":%s}`, id, result))
}

func fails(id int, e api.Errno) string { return quote(fmt.Sprintf(`{"id":%d,"error":"%v"}`, id, e)) }

func refused(e api.Errno) string { return "error " + e.Error() }

func done(n int) string { return fmt.Sprintf("done %d", n) }

// lines ends each with byte 10.
func lines(all ...string) string {
	var out strings.Builder
	for _, one := range all {
		out.WriteString(one + "\n")
	}
	return out.String()
}

// short gives what is told of a text that may be long.
func short(s string) string {
	if len(s) > 600 {
		return fmt.Sprintf("%.300q .. %q, %d bytes", s, s[len(s)-200:], len(s))
	}
	return fmt.Sprintf("%q", s)
}

// expect runs a session, and holds the answers against those that are wanted.
func expect(t *testing.T, session, want string) {
	t.Helper()
	if got := Run(session); got != want {
		t.Errorf("%s:\ngot  %s\nwant %s", short(session), short(got), short(want))
	}
}

// play runs lines, and holds the answers against those that are wanted, which stand behind them in a list.
func play(t *testing.T, said []string, want ...string) {
	t.Helper()
	expect(t, lines(said...), lines(want...))
}

// An ordinary session, byte by byte.
func TestX1Session(t *testing.T) {
	expect(t, `note "{\"method\":\"open\",\"params\":{\"file\":\"a\",\"text\":\"def f(x) = x + 1; def k = f(2);\"}}"`+"\n"+
		`note "{\"id\":1,\"method\":\"types\",\"params\":{\"file\":\"a\"}}"`+"\n"+
		`push "Content-Length: 75\u{d}\n\u{d}\n{\"id\":2,\"method\":\"eval\",\"params\":{\"file\":\"a\",\"name\":\"k\",\"fuel\":10}}         "`+"\n"+
		"work 1\nwork 7\nwork 7\n",
		`"{\"id\":1,\"result\":[[4,\"(int) -> int\"],[22,\"int\"]]}"`+"\ndone 1\n"+
			`"{\"id\":2,\"result\":\"3\"}"`+"\ndone 0\ndone 0\n")
}

// What the document tells of the whole, as far as a desk can be asked for it.
func TestX1ExamplesOfTheWhole(t *testing.T) {
	play(t, []string{
		note(opens("a", "def f(x) = x + 1; def k = f(2);")),
		note(asks(1, "types", inA)), note(asks(2, "eval", inA+`,"name":"k","fuel":9`)), note(asks(3, "notes", inA)), note(asks(4, "rename", inA+`,"at":4,"name":"g"`)), work(9),
		note(changes("a", 1, 15, 16, `"1"`)),
		note(asks(5, "types", inA)), note(asks(6, "notes", inA)), work(9),
	},
		right(1, `[[4,"(int) -> int"],[22,"int"]]`), right(2, `"3"`), right(3, "[]"), right(4, `[["a","def g(x) = x + 1; def k = g(2);"]]`), done(0),
		right(5, `[[4,null],[24,"a"]]`), right(6, `[[4,5,"ErrType"]]`), done(0))
}

// Every method that a desk has, asked by a session.
func TestX1Methods(t *testing.T) {
	text := "def f(x) = x+1;\ndef k = ?;"
	for _, c := range []struct{ method, params, want string }{
		{"notes", "", "[]"},
		{"types", "", `[[4,"(int) -> int"],[20,"a"],[24,"a"]]`},
		{"find", `,"at":11`, `["a",6]`},
		{"uses", `,"at":11`, `[["a",6],["a",11]]`},
		{"place", `,"at":17`, "[1,1,1]"},
		{"rename", `,"at":6,"name":"y"`, `[["a","def f(y) = y+1;\ndef k = ?;"]]`},
		{"complete", `,"at":24`, `["f","k"]`},
		{"layout", "", `"def f(x) = x + 1;\ndef k = ?;\n"`},
		{"colours", "", "[0,0,3,1,0,4,1,7,0,1,1,5,0,1,1,8,0,1,1,5,0,2,1,5,0,2,1,8,0,1,1,5,0,1,1,2,0,1,1,5,1,0,3,1,0,4,1,7,0,2,1,5,0,2,1,5,0,1,1,5]"},
		{"eval", `,"name":"k","fuel":9`, ""},
	} {
		want := right(7, c.want)
		if c.want == "" {
			want = fails(7, api.ErrStuck)
		}
		play(t, []string{note(opens("a", text)), note(asks(7, c.method, inA+c.params)), work(1)}, want, done(0))
	}
}

// Nothing is said, and nothing answered.
func TestX1Nothing(t *testing.T) {
	for _, s := range []string{"", "\n", "\n\n\n", note("") + "\n", push(""), note("null")} {
		expect(t, s, "")
	}
}

// Empty lines are passed over, wherever they stand; what has a blank is not empty.
func TestX1EmptyLines(t *testing.T) {
	expect(t, "\nwork 1", "done 0\n")
	expect(t, "work 1\n\n", "done 0\n")
	expect(t, "\n\n\nwork 1\n\n\nwork 2\n\n", "done 0\ndone 0\n")
	for _, s := range []string{" ", "  ", "\t", "\r", "\x00", "\ufeff"} {
		expect(t, "work 1\n"+s+"\nwork 1\n", "done 0\nerror ErrSyntax\ndone 0\n")
	}
}

// The last line may end with byte 10, or not.
func TestX1LastLine(t *testing.T) {
	for last, want := range map[string]string{
		work(3):                done(0),
		work(0):                done(1),
		"work":                 refused(api.ErrSyntax),
		"x":                    refused(api.ErrSyntax),
		push("\r\n"):           refused(api.ErrSyntax),
		note("{}") + " ":       refused(api.ErrSyntax),
		`push "`:               refused(api.ErrSyntax),
		work(0) + "\n\n" + "w": done(1) + "\n" + refused(api.ErrSyntax),
	} {
		if last == work(3) {
			want = fails(5, api.ErrName) + "\n" + want
		}
		before := lines(note(asks(5, "x", "")))
		expect(t, before+last, want+"\n")
		expect(t, before+last+"\n", want+"\n")
		expect(t, before+last+"\n\n", want+"\n")
	}
}

// Lines that are none of those that can be.
func TestX1AnyOther(t *testing.T) {
	for _, line := range []string{
		// a word with nothing behind it
		"push", "note", "work", "push ", "note ", "work ", "push  ", "note  ", "work  ",
		// without the blank, with two, with another sign
		`push""`, `push"x"`, `note"{}"`, "work1", "work0", `push  "x"`, `note  "{}"`, "work  1", "push\t\"x\"", "note\t\"x\"", "work\t1", "work\r1", "push\u00a0\"x\"", "work \t1", "push \t\"x\"", "push\x00\"x\"", `push="x"`, "work,1",
		// something ahead of the word
		` push "x"`, ` note "{}"`, " work 1", "\twork 1", "\ufeffwork 1", "\"\" work 1",
		// something behind
		`push "x" `, `push "x"x`, `push "x""y"`, `push "x" "y"`, `note "{}" `, `note "{}"1`, "push \"x\"\r", "note \"x\"\t", "work 1 ", "work 1 1", "work 1x", "work 1\r", "work 1\x00", "work 1.", "work 1,", "push \"x\"--", "work 1-- x", "work 1{--}",
		// of another kind
		"push 1", "note 1", `work "1"`, `work ""`, "push x", "note x", "work x", "push null", "note {}", "note []", "push true", `push 'x'`, "push `x`",
		// texts that are none
		`push "`, `note "`, `push "x`, `push x"`, `push """`, `push "\"`, `push "x\"`, `push "\`, `note "{"}"`, `push "\q"`, `push "\r"`, `push "\/"`, `push "\b"`, `push "\0"`, `push "\'"`, `push "\N"`, `push "\T"`, `push "\ "`, "push \"\\\xff\"",
		`push "\u"`, `push "\u{"`, `push "\u{}"`, `push "\u{x}"`, `push "\u0041"`, `push "\u{0000041}"`, `push "\u{110000}"`, `push "\u{ffffff}"`, `push "\u{d800}"`, `push "\u{DFFF}"`, `push "\u{41"`, `push "\u{ 41}"`, `push "\U{41}"`, `push "\u{-1}"`, `note "\u{d83d}\u{de00}"`,
		"push \u201cx\u201d", "push {- -}\"x\"", `push x"x"`, `push 1"x"`,
		// numbers that are none
		"work 01", "work 00", "work 000000000", "work 000000001", "work -1", "work -0", "work +1", "work +0", "work - 1", "work 1000000000", "work 9999999999", "work 0000000000", "work 99999999999999999999999", "work 1e3", "work 0x1", "work 1_0", "work 1.0", "work \u0661", "work \uff11", "work a", "work -", "work 1-", "work 12345678x",
		// any other word
		"x", "stop", "Push \"x\"", "PUSH \"x\"", "pusH \"x\"", "Note \"{}\"", "NOTE \"{}\"", "Work 1", "WORK 1", "workS 1", "works 1", "wor 1", "wörk 1", "pushes \"x\"", "pus \"x\"", "notes \"{}\"", "not \"{}\"", "open \"x\"", "wait", "done 0", "error ErrFull", `"push" "x"`, `""`, "1", "0", "-- work 1", "#", "//", "quit", "push.", "note:", "help",
		// bytes that are no characters
		"\xff", "\x80\x81", "work\xff 1", "work \xff1", "work 1\xff", "\xffwork 1", "push \xff\"x\"", "push \"x\"\xff", "push\xff\"x\"", "\xc3", "\xf0\x9f\x98", "note \xc0\xa0\"{}\"", "push \xe2\x80\x9cx\"",
	} {
		expect(t, line, "error ErrSyntax\n")
		// it has done nothing
		play(t, []string{note(asks(1, "x", "")), line, work(0), line, work(9), line},
			refused(api.ErrSyntax), done(1), refused(api.ErrSyntax), fails(1, api.ErrName), done(0), refused(api.ErrSyntax))
	}
}

// Lines that are no texts do not spoil what was there of a frame.
func TestX1OthersBetween(t *testing.T) {
	all := framed(asks(1, "x", ""))
	for i := range len(all) + 1 {
		play(t, []string{push(all[:i]), "push", `push "` + "\r", "note x", `push "\r\n\r\n"`, "", push(all[i:]), work(1)},
			refused(api.ErrSyntax), refused(api.ErrSyntax), refused(api.ErrSyntax), refused(api.ErrSyntax), fails(1, api.ErrName), done(0))
	}
}

// Numbers, and as many as that are worked.
func TestX1Numbers(t *testing.T) {
	var said []string
	for i := range 12 {
		said = append(said, note(asks(i, "x", "")))
	}
	for number, n := range map[string]int{"0": 0, "1": 1, "2": 2, "9": 9, "10": 10, "11": 11, "12": 12, "13": 12, "100": 12, "123456789": 12, "999999999": 12, "100000000": 12} {
		var want []string
		for i := range n {
			want = append(want, fails(i, api.ErrName))
		}
		play(t, append(said[:12:12], "work "+number), append(want, done(12-n))...)
	}
}

// Requests are worked in the order in which they came, some now, and others later.
func TestX1Work(t *testing.T) {
	play(t, []string{work(0), work(5), note(asks(3, "x", "")), note(asks(3, "x", "")), note(asks(-1, "x", "")), work(0), work(1), note(asks(4, "x", "")), work(2), work(0), work(1), work(1)},
		done(0), done(0), done(3), fails(3, api.ErrName), done(2), fails(3, api.ErrName), fails(-1, api.ErrName), done(1), done(1), fails(4, api.ErrName), done(0), done(0))
}

// Bodies are told as texts.
func TestX1AnswersAsTexts(t *testing.T) {
	text := "def \u00e9 = [\"\xff\x7f\U0001f600\\n\\\\\", \"\"];\n-- \t\r\x01x\n"
	expect(t, lines(note(opens("a", text)), note(asks(1, "rename", inA+`,"at":4,"name":"z"`)), work(1)),
		`"{\"id\":1,\"result\":[[\"a\",\"def z = [\\\"`+"\xff"+`\u{7f}`+"\U0001f600"+`\\\\n\\\\\\\\\\\", \\\"\\\"];\\n-- \\t\\r\\u0001x\\n\"]]}"`+"\ndone 0\n")
}

// What a text stands for, with escapes and without, is what is pushed.
func TestX1Escapes(t *testing.T) {
	for _, line := range []string{
		`note "{\"id\":1,\"method\":\"x\"}"`,
		`note "\u{7b}\u{22}id\u{0022}:1,\u{000022}method\":\"x\"}"`,
		`note "{\n\t\"id\":1,\u{9}\u{a}\u{D}\u{d}\u{0d}\"method\":\"x\"}"`,
		"note \"{\t\r\\\"id\\\":1,\\\"method\\\":\\\"x\\\"}\"",
		`note "{\"\\u0069d\":1,\"m\u{65}thod\":\"x\"}"`,
		"note \"{\\\"id\\\":1,\\\"method\\\":\\\"\xff\xc3\\\"}\"",
		"note \"{\\\"id\\\":1,\\\"method\\\":\\\"\U0001f600\\u{1F600}\\u{10ffff}\u00e9\x7f\\\"}\"",
		`push "Content-Length: 21\u{d}\n\u{d}\n{\"id\":1,\"method\":\"x\"}"`,
		`push "Content-Length: 22\u{d}\u{a}\u{d}\u{a}{\"id\":1,\"method\":\"é\"}"`,
		"push \"Content-Length: 21\r\\n\r\\n{\\\"id\\\":1,\\\"method\\\":\\\"\xff\\\"}\"",
	} {
		play(t, []string{line, work(1)}, fails(1, api.ErrName), done(0))
	}
}

// A note is the frame of its text: as many bytes as there are of what it stands for.
func TestX1NoteIsAFrame(t *testing.T) {
	for _, body := range []string{"", " ", "x", "{}", "null", "\r\n\r\n", "{\"id\":1}", strings.Repeat("\u00e9\xff", 40), "Content-Length: 3\r\n\r\n", "[" + strings.Repeat(" ", 5000)} {
		play(t, []string{note(body), note(asks(1, "x", "")), push(framed(body)), note(body), note(asks(2, "x", "")), work(9)}, fails(1, api.ErrName), fails(2, api.ErrName), done(0))
	}
}

// Bodies that are no values, or no messages, are passed over.
func TestX1NoteOfNoValue(t *testing.T) {
	for _, body := range []string{"", "{", "nul", "x", `{"id":1,"method":"x"`, `{"id":1,"method":"x"}}`, `{"id":1,"id":1,"method":"x"}`, `{"id":01,"method":"x"}`, "[]", `"id"`, `{"id":"1","method":"x"}`, `{"id":1}`, `{"id":1,"method":2}`, "{\"id\":1,\"method\":\"\n\"}"} {
		play(t, []string{note(body), work(1), push(framed(body)), work(1)}, done(0), done(0))
	}
}

// A note is put behind what was pushed, whatever that is: also into a frame that is not whole.
func TestX1NoteWithinAFrame(t *testing.T) {
	ask := asks(1, "x", "")
	play(t, []string{push("Content-Length: " + fmt.Sprint(len(framed(ask))) + "\r\n\r\n"), note(ask), work(1), note(ask), work(1)}, done(0), fails(1, api.ErrName), done(0))
	play(t, []string{push("A"), note(ask), work(1)}, refused(api.ErrSyntax), done(0))
	play(t, []string{push("A: "), note(ask), work(1)}, refused(api.ErrSyntax), done(0)) // its length is in a line that is passed over
	play(t, []string{push("A: \r\n"), note(ask), work(1)}, fails(1, api.ErrName), done(0))
}

// Frames that come in pieces, in every way there is to cut them in two.
func TestX1Pieces(t *testing.T) {
	all := framed(opens("a", "def x = \"é\";")) + framed(asks(1, "eval", inA+`,"name":"x","fuel":1`)) + framed(asks(2, "place", inA+`,"at":11`))
	want := []string{right(1, `"\"é\""`), right(2, "[0,10,10]"), done(0)}
	for i := range len(all) + 1 {
		play(t, []string{push(all[:i]), push(all[i:]), work(2)}, want...)
		play(t, []string{push(all[:i]), push(""), push(all[i:]), push(""), work(9)}, want...)
	}
	var each []string
	for i := range len(all) {
		each = append(each, push(all[i:i+1]))
	}
	play(t, append(each, work(2)), want...)
}

// What is no frame; from then on each push and note has the same error, but what waits is worked.
func TestX1NoFrames(t *testing.T) {
	ask := asks(1, "layout", inA)
	for bad, e := range map[string]api.Errno{"\r\n": api.ErrSyntax, "x\r\n": api.ErrSyntax, "A: b\r\n\r\n": api.ErrSyntax, "Content-Length: x\r\n": api.ErrSyntax, "Content-Length:1\r\n": api.ErrSyntax,
		"Content-Length: 12345678901\r\n": api.ErrSyntax, strings.Repeat("x", 1001): api.ErrFull, strings.Repeat("\r", 1002): api.ErrFull} {
		play(t, []string{push(bad)}, refused(e))
		play(t, []string{note(opens("a", "")), note(ask), push(bad), push(""), push(framed(ask)), note(ask), note(cancels(1)), note(changes("a", 1, 0, 0, " ")), "push", work(0), push("\r\n"), work(5), note(""), work(1), "note"},
			refused(e), refused(e), refused(e), refused(e), refused(e), refused(e), refused(api.ErrSyntax), done(1), refused(e), right(1, `""`), done(0), refused(e), done(0), refused(api.ErrSyntax))
		// what is whole ahead of it is looked at, what stands behind it is not
		play(t, []string{push(framed(opens("a", "")) + framed(ask) + bad + framed(ask)), work(0), work(9)}, refused(e), done(1), right(1, `""`), done(0))
		// the error comes with the byte that makes it one, wherever that is pushed
		play(t, []string{push(bad[:len(bad)-1]), work(0), push(bad[len(bad)-1:]), work(0)}, done(0), refused(e), done(0))
	}
}

// The errors of requests are in their bodies, and are none of the lines'.
func TestX1Answers(t *testing.T) {
	play(t, []string{
		note(opens("a", "def x = 1;")), note(opens("a", "def y = 2;")), note(asks(1, "layout", inA)), note(asks(2, "layout", `"file":"b"`)), note(asks(3, "layout", "")), note(asks(4, "hover", "")), note(asks(5, "eval", inA+`,"name":"z","fuel":1`)),
		note(cancels(2)), work(2), note(changes("a", 1, 4, 5, "z")), note(asks(6, "eval", inA+`,"name":"z","fuel":1`)), work(99),
	},
		right(1, `"def x = 1;\n"`), fails(2, api.ErrCancel), done(3), fails(3, api.ErrSyntax), fails(4, api.ErrName), fails(5, api.ErrStale), right(6, `"1"`), done(0))
}

// A session knows nothing of those before.
func TestX1EachByItself(t *testing.T) {
	first := lines(note(opens("a", "")), note(asks(1, "layout", inA)), push("Content-Length: 5\r\n"), "x")
	second := lines(note(asks(2, "layout", inA)), work(0), work(9))
	for range 3 {
		expect(t, first, "error ErrSyntax\n")
		expect(t, push("\r\n"), "error ErrSyntax\n")
		expect(t, second, lines(done(1), fails(2, api.ErrRange), done(0)))
	}
}
