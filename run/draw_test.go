package run

import (
	"fmt"
	"strings"

	"amanuensis/api"
)

// dice gives numbers that look as if by chance, and are the same each time.
type dice uint64

func (d *dice) roll(n int) int {
	*d = *d*6364136223846793005 + 1442695040888963407
	return int(uint64(*d>>33) % uint64(n))
}

func (d *dice) one(all ...string) string { return all[d.roll(len(all))] }

// session gives one of at most so many steps, some of which are more than one line; the last line may not end with byte 10.
func (d *dice) session(most int) string {
	var said []string
	if d.roll(8) > 0 {
		said = append(said, note(opens("a", d.text())))
	}
	for range d.roll(most) {
		switch d.roll(10) {
		case 0, 1:
			said = append(said, d.one("work 0", "work 1", "work 1", "work 2", "work 2", "work 99", "work 999999999"))
		case 2:
			said = append(said, d.strange())
		case 3:
			said = append(said, d.pieces(framed(d.body())+framed(d.body()))...)
		case 4:
			said = append(said, d.pieces(framed(d.body()))...)
		case 5:
			said = append(said, "")
		default:
			said = append(said, "note "+d.spelt(d.body()))
		}
	}
	if d.roll(4) == 0 {
		at := d.roll(len(said) + 1)
		bad := push(d.one("\r\n", "x\r\n", "A: \r\n\r\n", "A: \r\n", strings.Repeat("x", 1001), "Content-Length: 30\r\n\r\n", "Content-Length: 0\r\n\r\n"))
		said = append(said[:at:at], append([]string{bad}, said[at:]...)...)
	}
	said = append(said, "work 99")
	return strings.Join(said, "\n") + d.one("", "\n", "\n\n")
}

// pieces pushes bytes that are cut as it comes.
func (d *dice) pieces(bytes string) []string {
	var said []string
	for bytes != "" {
		n := min(1+d.roll(100), len(bytes))
		said = append(said, "push "+d.spelt(bytes[:n]))
		bytes = bytes[n:]
	}
	return said
}

// spelt gives a TText that stands for a text, now and then with more escapes than it needs.
func (d *dice) spelt(s string) string {
	if d.roll(4) > 0 {
		return quote(s)
	}
	var out strings.Builder
	for i := range len(s) {
		if s[i] < 128 && d.roll(10) == 0 {
			fmt.Fprintf(&out, d.one(`\u{%x}`, `\u{%02X}`, `\u{%06x}`), s[i])
		} else if s[i] == '\r' {
			out.WriteByte(s[i])
		} else {
			one := quote(s[i : i+1])
			out.WriteString(one[1 : len(one)-1])
		}
	}
	return `"` + out.String() + `"`
}

func (d *dice) file() string { return d.one("a", "a", "a", "b") }

func (d *dice) text() string {
	return d.one(
		"def f(x) = x + 1; def g = f(2); def k = ?;",
		"use b.x as y; pub def f(p) = let l = p in y(l, f); def two = [f, ?];",
		"pub def x(n) = if n == 0 then 1 else n * x(n - 1); def k = x(4); -- \u00e9",
		"use a.f; def bad = 1 + true; def l = l;\ndef h = ? + f(1);",
		"def x = \"\u00e9\xff\x7f\\n\U0001f600\"; def y = [x, \"\"]; pub def z = x ++ x;",
		"def 1 = ; use ; $ \x01\xff \"\x7f\r\n\t\\", "")
}

// body gives a message, or what is nearly one.
func (d *dice) body() string {
	switch d.roll(12) {
	case 0, 1:
		return opens(d.file(), d.text())
	case 2:
		from := d.roll(30)
		return changes(d.file(), d.roll(6), from, from+d.roll(4)-1, d.one("", " ", "x", "1", "?", "(", "; def x = 7", "\"\n\""))
	case 3:
		return cancels(d.roll(5))
	case 4:
		return d.one("", "null", "{", "[]", `{"id":1}`, `{"id":"1","method":"notes"}`, `{"id":1,"id":2,"method":"notes"}`, "\xff\x00\r\n", `{"method":"open"}`, " {}", `{"id":3,"method":"notes","params":[]}`)
	}
	method := d.one("notes", "types", "find", "uses", "place", "rename", "complete", "layout", "colours", "eval", "hover")
	params := fmt.Sprintf(`"file":%s,"at":%d,"name":%s,"fuel":%s`, inMessage(d.file()), d.roll(45)-1, inMessage(d.one("x", "k", "g", "f", "\u00e92", "use", "")), d.one("1", "5", "100", "10001"))
	if d.roll(8) == 0 {
		params = d.one("", `"file":"c"`, inA)
	}
	return asks(d.roll(5), method, params)
}

// strange gives a line that is none of those that can be, or nearly so.
func (d *dice) strange() string {
	line := d.one("push", "note", "work", "stop", "work -1", "work 01", "work x", " work 1", "work  1", "work 1 ", "Work 1", "note x", `note "`, `push "\q"`, `note "{}" `, "\xff", "work 1000000000", " ", "\r", `push "\u{d800}"`, `push "\u{10FFFF}"`,
		`note "\u{110000}"`, "work \"1\"", "push 1", note(asks(d.roll(5), "notes", inA)), push(framed(asks(d.roll(5), "notes", inA))), note(opens("b", d.text())))
	switch d.roll(4) {
	case 0:
		at := d.roll(len(line))
		return line[:at] + line[at+1:]
	case 1:
		at := d.roll(len(line) + 1)
		return line[:at] + d.one(" ", "\"", "\\", "0", "x", "\xc3", "\t", "}", "\\n", "\\u{41}") + line[at:]
	}
	return line
}

// many gives a session of about as many lines as there may be.
func (d *dice) many() string {
	said := d.session(30)
	n := 2000 - strings.Count(said, "\n") + d.roll(7) - 3
	fill := make([]string, 0, n)
	for range n {
		fill = append(fill, d.one("", "", "work 1", "x", `note ""`))
	}
	if d.roll(2) == 0 {
		return strings.Join(fill, "\n") + "\n" + said
	}
	return said + "\n" + strings.Join(fill, "\n")
}

// long gives a session with a line of about as many bytes as there may be.
func (d *dice) long() string {
	line := d.one("x", "work 1", `note "{}`, note(asks(1, "hover", ""))[:20])
	line += strings.Repeat(d.one(" ", "x", "\xff", "1"), 20000-len(line)+d.roll(7)-3)
	if d.roll(2) == 0 {
		line = line[:len(line)-1] + `"`
	}
	said := strings.SplitAfter(d.session(20), "\n")
	at := d.roll(len(said) + 1)
	ahead, behind := strings.Join(said[:at], ""), strings.Join(said[at:], "")
	if ahead != "" && !strings.HasSuffix(ahead, "\n") {
		ahead += "\n"
	}
	if behind == "" {
		return ahead + line + d.one("", "\n")
	}
	return ahead + line + "\n" + behind
}

// noise gives any bytes, of which few are a session.
func (d *dice) noise() string {
	var out strings.Builder
	for range d.roll(30) {
		out.WriteString(d.one("push", "note", "work", " ", " ", "\"", "\"", "\\", "n", "u{", "}", "1", "0", "9", "\n", "\n", "\r", "x", "\xff", "\u00e9", "{}", "\x00", api.ErrFull.Error()))
	}
	return out.String()
}
