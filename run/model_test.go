package run

import (
	"fmt"
	"regexp"
	"strconv"
	"strings"
	"testing"
	"unicode/utf8"

	"amanuensis/desk"
	"amanuensis/plain"
)

// The lines, by another library's reckoning.
var (
	textLine   = regexp.MustCompile(`^(push|note) "((?:[^"\\]|\\[nt"\\]|\\u\{[0-9a-fA-F]{1,6}\})*)"$`)
	workLine   = regexp.MustCompile(`^work (0|[1-9][0-9]{0,8})$`)
	escape     = regexp.MustCompile(`\\(?:[nt"\\]|u\{([0-9a-fA-F]+)\})`)
	answerHead = regexp.MustCompile(`^Content-Length: (0|[1-9][0-9]*)\r\n\r\n`)
)

// meant gives what stands between the `"` of a text stands for; false, if an escape is no code point.
func meant(s string) (string, bool) {
	ok := true
	s = escape.ReplaceAllStringFunc(s, func(e string) string {
		switch e {
		case `\n`:
			return "\n"
		case `\t`:
			return "\t"
		case `\"`, `\\`:
			return e[1:]
		}
		code, _ := strconv.ParseInt(e[3:len(e)-1], 16, 64)
		ok = ok && utf8.ValidRune(rune(code))
		return string(rune(code))
	})
	return s, ok
}

// slowRun is a session as the chapter tells it; seen has how often each kind of line was there.
func slowRun(session string, seen map[string]int) string {
	all := strings.Split(session, "\n")
	if all[len(all)-1] == "" {
		all = all[:len(all)-1]
	}
	most := 0
	for _, line := range all {
		most = max(most, len(line))
	}
	if len(all) > 2000 || most > 20000 {
		seen["full"]++
		return "error ErrFull\n"
	}
	d := desk.New()
	var out strings.Builder
	for _, line := range all {
		answer, kind := slowLine(d, line)
		out.WriteString(answer)
		seen[kind]++
	}
	return out.String()
}

// slowLine gives what is answered to a line, and what kind of line it is.
func slowLine(d *desk.Desk, line string) (answer, kind string) {
	if line == "" {
		return "", "empty"
	}
	if m := workLine.FindStringSubmatch(line); m != nil {
		n, _ := strconv.Atoi(m[1])
		frames := d.Work(n)
		for frames != "" {
			head := answerHead.FindStringSubmatch(frames)
			length, _ := strconv.Atoi(head[1])
			frames = frames[len(head[0]):]
			answer += quote(frames[:length]) + "\n"
			frames = frames[length:]
		}
		return answer + fmt.Sprintf("done %d\n", d.Waiting()), "work"
	}
	m := textLine.FindStringSubmatch(line)
	if m == nil {
		return "error ErrSyntax\n", "other"
	}
	text, ok := meant(m[2])
	if !ok {
		return "error ErrSyntax\n", "no code point"
	}
	if m[1] == "note" {
		text = framed(text)
	}
	if err := d.Push(text); err != nil {
		return fmt.Sprintf("error %v\n", plain.Told(err)), m[1] + " " + err.Error()
	}
	return "", m[1]
}

// Drawn sessions, answer by answer; each of them twice, and with nothing kept from one to the next.
func TestX1AgainstTheModel(t *testing.T) {
	d := dice(170)
	seen := map[string]int{}
	draw := func(times int, session func() string) {
		t.Helper()
		for range times {
			said := session()
			want := slowRun(said, seen)
			for range 2 {
				if got := Run(said); got != want {
					t.Fatalf("%q:\ngot  %q\nwant %q", said, got, want)
				}
			}
		}
	}
	draw(3000, func() string { return d.session(30) })
	draw(30, d.many)
	draw(100, d.long)
	draw(30000, d.noise)
	for kind, least := range map[string]int{"empty": 1000, "work": 1000, "other": 1000, "no code point": 10, "push": 1000, "note": 1000, "push ErrSyntax": 200, "note ErrSyntax": 200, "push ErrFull": 50, "note ErrFull": 50, "full": 30} {
		if seen[kind] < least {
			t.Errorf("%s came %d times", kind, seen[kind])
		}
	}
}

// What is drawn has answers of many kinds.
func TestX1DrawnAnswers(t *testing.T) {
	d := dice(171)
	var all strings.Builder
	for range 1000 {
		all.WriteString(Run(d.session(30)))
	}
	for _, part := range []string{`\"result\":[]`, `\"result\":[[`, `\"result\":null`, `\"result\":\"`, `\"error\":\"ErrName`, `\"error\":\"ErrRange`, `\"error\":\"ErrSyntax`, `\"error\":\"ErrStale`, `\"error\":\"ErrCancel`, "done 0\n", "done 1\n", "done 2\n", "error ErrSyntax\n", "error ErrFull\n", "\u00e9", `\u{7f}`, "\xff"} {
		if n := strings.Count(all.String(), part); n < 20 {
			t.Errorf("%q came %d times", part, n)
		}
	}
}
