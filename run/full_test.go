package run

import (
	"strings"
	"testing"
	"time"

	"amanuensis/api"
)

// full is all that is answered to a session that is too much.
const full = "error ErrFull\n"

// just gives a line of so many bytes (some 20000) that pushes a frame of no value.
func just(n int) string {
	n -= len(push(framed(strings.Repeat("x", 10000)))) - 10000
	return push(framed(strings.Repeat("\u00e9", n/2) + strings.Repeat("x", n%2)))
}

// Just 2000 lines, and one more, of several kinds.
func TestX1ManyLines(t *testing.T) {
	for line, want := range map[string]string{
		"work 1":        "done 0\n",
		"":              "",
		"x":             "error ErrSyntax\n",
		push(""):        "",
		note("null"):    "",
		"work 1\n":      "done 0\n", // two lines, one of them empty
		"\n\n\nx":       "error ErrSyntax\n",
		push("A: \r\n"): "",
	} {
		each := strings.Count(line, "\n") + 1
		said, answers := strings.Repeat(line+"\n", 2000/each), strings.Repeat(want, 2000/each)
		expect(t, said, answers)
		if line != "" && !strings.HasSuffix(line, "\n") {
			expect(t, strings.TrimSuffix(said, "\n"), answers)
		}
		for _, more := range []string{"\n", "x", " ", "x\n", "work 1", "work 1\n", "\n\n", "\x00", just(20000), just(20001)} {
			expect(t, said+more, full)
			expect(t, more+"\n"+said, full)
		}
	}
}

// Empty lines count, wherever they stand.
func TestX1EmptyLinesCount(t *testing.T) {
	empty := strings.Repeat("\n", 1999)
	for _, said := range []string{"work 1\n" + empty, empty + "work 1\n", empty + "work 1", empty[:1000] + "work 1\n" + empty[1000:]} {
		expect(t, said, "done 0\n")
		expect(t, "\n"+said, full)
		expect(t, said+"\n\n", full)
	}
	expect(t, empty+"work 1\n", "done 0\n")
	expect(t, empty+"work 1\n\n", full)
	expect(t, empty+"\n", "")
	expect(t, empty+"\n\n", full)
	expect(t, empty+"\nw", full)
}

// Lines of just 20000 bytes, and of one more, first, last and between others.
func TestX1LongLines(t *testing.T) {
	for _, c := range []struct{ line, more, want string }{
		{just(20000), just(20001), ""},
		{note(strings.Repeat(" ", 19993)), note(strings.Repeat(" ", 19994)), ""},
		{strings.Repeat("x", 20000), strings.Repeat("x", 20001), "error ErrSyntax\n"},
		{strings.Repeat(" ", 20000), strings.Repeat(" ", 20001), "error ErrSyntax\n"},
		{strings.Repeat("\xff", 20000), strings.Repeat("\xff", 20001), "error ErrSyntax\n"},
		{"work " + strings.Repeat("1", 19995), "work " + strings.Repeat("1", 19996), "error ErrSyntax\n"},
		{`push "` + strings.Repeat("x", 19994), `push "` + strings.Repeat("x", 19995), "error ErrSyntax\n"},
		{"x" + strings.Repeat("\r", 19999), "x" + strings.Repeat("\r", 20000), "error ErrSyntax\n"},
	} {
		if len(c.line) != 20000 || len(c.more) != 20001 {
			t.Fatalf("%.20q: %d, %d bytes", c.line, len(c.line), len(c.more))
		}
		for _, end := range []string{"", "\n", "\n\n"} {
			expect(t, c.line+end, c.want)
			expect(t, c.more+end, full)
			expect(t, "work 1\n"+c.line+end, "done 0\n"+c.want)
			expect(t, "work 1\n"+c.more+end, full)
		}
		expect(t, c.line+"\nwork 1\n", c.want+"done 0\n")
		expect(t, c.more+"\nwork 1\n", full)
		expect(t, "\n\n"+c.more+"\nwork 1\n", full)
		expect(t, c.line+"\n"+c.line+"\n", c.want+c.want)
		expect(t, c.line+"\n"+c.more+"\n", full)
	}
}

// Whatever stood ahead, or stands behind, nothing else is told.
func TestX1FullAlone(t *testing.T) {
	said := lines(note(opens("a", "def x = 1;")), note(asks(1, "types", inA)), "x", work(0), push("\r\n"), work(9))
	expect(t, said, lines(refused(api.ErrSyntax), done(1), refused(api.ErrSyntax), right(1, `[[4,"int"]]`), done(0)))
	expect(t, said+just(20001), full)
	expect(t, just(20001)+"\n"+said, full)
	expect(t, said+just(20001)+"\n"+said, full)
	expect(t, said+strings.Repeat("\n", 1995), full)
	expect(t, strings.Repeat("\n", 1995)+said, full)
	expect(t, strings.Repeat(said, 334), full)
	// an error of the frames has this name, too, and is none of the session
	expect(t, lines(push(strings.Repeat("x", 1001)), work(0)), full+"done 0\n")
}

// soon fails if something takes long.
func soon(t *testing.T, do func()) {
	t.Helper()
	begin := time.Now()
	do()
	if spent := time.Since(begin); spent > 20*time.Second {
		t.Errorf("it took %v", spent)
	}
}

// Texts that are far too long are not gone through for long.
func TestX1FarTooLong(t *testing.T) {
	soon(t, func() {
		for _, s := range []string{"\n", "x", "work 1\n", "\xff", "\"", " "} {
			expect(t, strings.Repeat(s, 1<<26/len(s)), full)
		}
	})
}

// As much as a session may have.
func TestX1AsMuchAsMayBe(t *testing.T) {
	soon(t, func() {
		expect(t, strings.Repeat(just(20000)+"\n", 2000), "")
	})
	soon(t, func() {
		ask := framed(asks(1, "x", ""))
		n := 19900 / len(quote(ask))
		said := strings.Repeat(push(strings.Repeat(ask, n))+"\n", 1999) + "work 999999999"
		expect(t, said, strings.Repeat(fails(1, api.ErrName)+"\n", 1999*n)+"done 0\n")
	})
	soon(t, func() {
		text := strings.Repeat("def x = y; ", 1700)
		said := lines(note(opens("a", text))) + strings.Repeat(lines(note(asks(1, "place", inA+`,"at":9999`)), work(1)), 999)
		expect(t, said, strings.Repeat(lines(right(1, "[0,9999,9999]"), done(0)), 999))
	})
}
