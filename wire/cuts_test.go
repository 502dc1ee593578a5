package wire

import (
	"fmt"
	"regexp"
	"slices"
	"strconv"
	"strings"
	"testing"

	"amanuensis/api"
)

// The lines of a frame, by another library's reckoning.
var (
	modelLength = regexp.MustCompile(`^Content-Length: ([0-9]{1,10})$`)
	modelOther  = regexp.MustCompile(`(?s)^([^:]*):`)
)

// slowFrames tells which bodies are whole in some bytes, and what is wrong.
func slowFrames(text string) (bodies []string, wrong api.Errno) {
	for {
		length := -1
		for {
			line, rest, ok := strings.Cut(text, "\r\n")
			if len(line) > 1001 || len(line) == 1001 && (ok || line[1000] != '\r') {
				return bodies, api.ErrFull
			}
			if !ok {
				return bodies, api.OK
			}
			text = rest
			if line == "" {
				break
			}
			if m := modelLength.FindStringSubmatch(line); m != nil {
				length, _ = strconv.Atoi(m[1])
			} else if m := modelOther.FindStringSubmatch(line); m == nil || m[1] == "Content-Length" {
				return bodies, api.ErrSyntax
			}
		}
		if length < 0 {
			return bodies, api.ErrSyntax
		}
		if len(text) < length {
			return bodies, api.OK
		}
		bodies, text = append(bodies, text[:length]), text[length:]
	}
}

// checkCut feeds a Reader with bytes that are cut at some places, and holds what it answers to each against what the model tells of all that has come by then.
func checkCut(t *testing.T, text string, places ...int) {
	t.Helper()
	r := New()
	told, from := 0, 0
	for _, to := range append(slices.Clone(places), len(text)) {
		got, err := r.Feed(text[from:to])
		bodies, wrong := slowFrames(text[:to])
		if errorName(t, err) != wrong.Error() || !slices.Equal(got, bodies[told:]) {
			t.Fatalf("%q, at %v, up to %d: got %q %v, want %q %v", text, places, to, got, err, bodies[told:], wrong)
		}
		told, from = len(bodies), to
	}
}

// checkCuts cuts bytes in many ways: at once, byte by byte, in two, and as they are drawn.
func (d *dice) checkCuts(t *testing.T, text string) {
	t.Helper()
	checkCut(t, text)
	var each []int
	for i := range len(text) {
		each = append(each, i)
	}
	checkCut(t, text, each...)
	for range 3 {
		var some []int
		few := 1 + d.roll(20)
		for i := range len(text) {
			if d.roll(few) == 0 {
				some = append(some, i, i)
			}
		}
		checkCut(t, text, some...)
	}
}

// Bytes that are cut in every way there is.
func TestJ4EveryCut(t *testing.T) {
	for _, text := range []string{"\r\n", "X:\r\n\r\n", "bad\r\nX: y\r\n", ":\r\n:\r:\r\n\r\n", "\r:\r\n\r\r\n"} {
		for cuts := range 1 << (len(text) - 1) {
			var places []int
			for i := range len(text) - 1 {
				if cuts>>i&1 == 1 {
					places = append(places, i+1)
				}
			}
			checkCut(t, text, places...)
		}
	}
}

// Longer ones that are cut in three, in every way there is.
func TestJ4EveryCutInThree(t *testing.T) {
	for _, text := range []string{
		Frame("") + Frame("ab") + Frame("\r\n"),
		"X: y\r\nContent-Length: 1\r\nContent-Length: 3\r\n\r\na\r\n" + Frame("b"),
		Frame("a") + "bad\r\n" + Frame("b"),
		Frame(Frame("a")) + "\r\n",
		"Content-Length: 12345678901\r\n\r\n",
		"Content-Length: 0000000002\r\n\r\n{}Content-Length:2\r\n",
	} {
		for i := range len(text) + 1 {
			for k := i; k <= len(text); k++ {
				checkCut(t, text, i, k)
			}
		}
	}
}

// Lines of about as many bytes as there may be, cut near their ends.
func TestJ4CutsOfLongLines(t *testing.T) {
	for n := 997; n < 1005; n++ {
		for _, line := range []string{lineOf(n), strings.Repeat("x", n), strings.Repeat("\r", n), lineOf(n-1) + "\r", lineOf(n-2) + "\r\r"} {
			for _, text := range []string{line + "\r\n" + Frame("a"), line, line + "\r", line + "\n"} {
				for i := 995; i <= min(len(text), 1008); i++ {
					for k := i; k <= min(len(text), 1008); k++ {
						checkCut(t, text, i, k)
					}
				}
			}
		}
	}
}

// line gives one of a frame, with its end.
func (d *dice) line() string {
	switch d.roll(24) {
	case 0:
		return d.pick("bad", "Content-Length", "Content-Length:", "Content-Length: ", "Content-Length:1", "Content-Length: 1x", "Content-Length: +1", "Content-Length: 12345678901", "\r", "\n", " ") + "\r\n"
	case 1, 4:
		return lineOf(998+d.roll(5)) + "\r\n"
	case 2:
		return "Content-Length: " + fmt.Sprint(d.roll(9)) + "\r\n"
	case 3:
		return "\r\n"
	}
	return d.pick("X: y", ":", "content-length: 3", "Content-Length : 4", "a:\rb", "a\n:", "Content-Type: é", "\xff: \xff") + "\r\n"
}

// frames gives some, in which something may be wrong.
func (d *dice) frames() string {
	var b strings.Builder
	for range d.roll(5) {
		body := d.pick(d.bytes(), d.bytes(), Frame(d.bytes()), "\r\n", "", d.written(d.json(2)))
		frame := Frame(body)
		if d.roll(2) == 0 {
			at := strings.Index(frame, "\r\n") + 2
			frame = d.line() + frame[:at] + d.line() + frame[at:]
		}
		b.WriteString(frame)
	}
	text := b.String()
	if d.roll(4) == 0 {
		text = text[:d.roll(len(text)+1)]
	}
	if at := d.roll(len(text) + 1); d.roll(3) == 0 {
		text = text[:at] + d.pick("", "\r", "\n", "\r\n", ":", "0", "x", "\xff") + text[min(len(text), at+d.roll(2)):]
	}
	return text
}

func TestJ4DrawnCuts(t *testing.T) {
	d := dice(6)
	seen := map[api.Errno]int{}
	for range 4000 {
		text := d.frames()
		d.checkCuts(t, text)
		_, wrong := slowFrames(text)
		seen[wrong]++
	}
	if seen[api.OK] < 300 || seen[api.ErrSyntax] < 300 || seen[api.ErrFull] < 100 {
		t.Error(seen)
	}
}

// What is framed comes out, however it is cut.
func TestJ4WhatIsFramedComesOut(t *testing.T) {
	d := dice(7)
	for range 3000 {
		var bodies []string
		var text strings.Builder
		for range d.roll(6) {
			body := d.pick(d.bytes(), d.written(d.json(3)), Frame(d.bytes()), strings.Repeat(d.bytes(), 100))
			bodies = append(bodies, body)
			text.WriteString(Frame(body))
		}
		r := New()
		var got []string
		for rest := text.String(); rest != ""; {
			n := min(len(rest), 1+d.roll(40))
			some, err := r.Feed(rest[:n])
			if err != nil {
				t.Fatalf("%q: %v", bodies, err)
			}
			got, rest = append(got, some...), rest[n:]
		}
		if !slices.Equal(got, bodies) {
			t.Fatalf("got  %q\nwant %q", got, bodies)
		}
	}
}
