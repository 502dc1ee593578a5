package wire

import (
	"fmt"
	"slices"
	"strings"
	"sync"
	"testing"
)

// fed feeds a new Reader with chunks, and tells what it answers to each.
func fed(t *testing.T, chunks ...string) []string {
	t.Helper()
	r := New()
	var all []string
	for _, c := range chunks {
		bodies, err := r.Feed(c)
		all = append(all, fmt.Sprintf("%q %s", bodies, errorName(t, err)))
	}
	return all
}

// answers fails if a new Reader does not answer so to chunks; of each the chunk, and then what is answered.
func answers(t *testing.T, talk ...string) {
	t.Helper()
	var chunks, want []string
	for i := 0; i < len(talk); i += 2 {
		chunks, want = append(chunks, talk[i]), append(want, talk[i+1])
	}
	if got := fed(t, chunks...); !slices.Equal(got, want) {
		t.Errorf("%.100q:\ngot  %.200q\nwant %.200q", chunks, got, want)
	}
}

// fine fails if bytes that are fed at once do not give these bodies, and nothing wrong.
func fine(t *testing.T, in string, bodies ...string) {
	t.Helper()
	answers(t, in, fmt.Sprintf("%q OK", bodies), "", "[] OK")
}

// broken fails if bytes that are fed at once do not give these bodies, and this error.
func broken(t *testing.T, in string, name string, bodies ...string) {
	t.Helper()
	answers(t, in, fmt.Sprintf("%q %s", bodies, name), "", "[] "+name, Frame("a"), "[] "+name, "", "[] "+name)
}

func TestJ4Frame(t *testing.T) {
	for body, want := range map[string]string{
		"":                         "Content-Length: 0\r\n\r\n",
		"a":                        "Content-Length: 1\r\n\r\na",
		"{}\r\n\r\n":               "Content-Length: 6\r\n\r\n{}\r\n\r\n",
		"é\U0001F600\xff\x00":      "Content-Length: 8\r\n\r\né\U0001F600\xff\x00",
		strings.Repeat("x", 12345): "Content-Length: 12345\r\n\r\n" + strings.Repeat("x", 12345),
	} {
		if got := Frame(body); got != want {
			t.Errorf("%.40q: %.80q", body, got)
		}
		fine(t, want, body)
	}
	if got, want := Frame(Frame("")), "Content-Length: 21\r\n\r\nContent-Length: 0\r\n\r\n"; got != want {
		t.Errorf("%q", got)
	}
}

func TestJ4Bodies(t *testing.T) {
	fine(t, "")
	fine(t, Frame("a")+Frame("")+Frame("bc")+Frame(""), "a", "", "bc", "")
	fine(t, Frame(Frame("a")+"\r\n\r\n"), Frame("a")+"\r\n\r\n")
	fine(t, Frame("Content-Length: 3\r\n")+Frame("\r\n"), "Content-Length: 3\r\n", "\r\n")
	fine(t, Frame("a")+"Content-Length: 3\r\n\r\nab", "a")
	fine(t, Frame("a")+"Content-Le", "a")
	fine(t, Frame("a")+"what is no line yet", "a")
	fine(t, Frame("\n")+Frame("\r")+Frame("\x00\xff"), "\n", "\r", "\x00\xff")
}

// Each body is told as soon as its last byte is there, and once.
func TestJ4AsTheyCome(t *testing.T) {
	answers(t, "", "[] OK", "Content-Length: 2\r\n\r\n", "[] OK", "", "[] OK", "a", "[] OK", "b", `["ab"] OK`, "", "[] OK", "Content-Length: 0\r\n\r", "[] OK", "\n", `[""] OK`, "", "[] OK")
	answers(t, Frame("a")+"Content", `["a"] OK`, "-Length: 3\r\n\r\nx", "[] OK", "yz"+Frame("b")+Frame(""), `["xyz" "b" ""] OK`, "\r", "[] OK", "\n", "[] ErrSyntax")
	answers(t, "Content-Length: 12\r\n\r\n", "[] OK", "123456", "[] OK", "789012"+Frame("x"), `["123456789012" "x"] OK`)
}

func TestJ4LinesThatArePassedOver(t *testing.T) {
	for _, line := range []string{
		"X: y", "X:y", "X:", ":", "::", ": Content-Length: 3", " : ", "Content-Type: a: b", "content-length: 9", "CONTENT-LENGTH: 9", "Content-length: 9", "Content-Length : 9", " Content-Length: 9",
		"Content-Lengt: 9", "Content-Length2: 9", "XContent-Length: 9", "X Content-Length: 9", "a\rb: c", "a\nb: c", "a: \r", "\r:", "\n:", "\n: \n", "é\xff\x00: \xff", "{\"a\":1}", "\tContent-Length: 9", "Content-Length\x00: 9", "Content_Length: 9",
	} {
		fine(t, line+"\r\nContent-Length: 2\r\n\r\nab"+Frame("c"), "ab", "c")
		fine(t, "Content-Length: 2\r\n"+line+"\r\n\r\nab"+Frame("c"), "ab", "c")
		fine(t, line+"\r\n"+line+"\r\nContent-Length: 0\r\n"+line+"\r\n\r\n", "")
		broken(t, line+"\r\n\r\n", "ErrSyntax")
	}
}

func TestJ4LinesThatAreNone(t *testing.T) {
	for _, line := range []string{
		"a", " ", "\t", "\r", "\n", "\x00", "\xff", "Content-Length", "Content-Length 3", "Content", "{}", "a b c", ";", "\r\r", "a\rb", "a\n",
		"Content-Length:", "Content-Length: ", "Content-Length:3", "Content-Length:  3", "Content-Length:\t3", "Content-Length: 3 ", "Content-Length: 3\r", "Content-Length: \r3", "Content-Length: 3\n", "Content-Length:3: ", "Content-Length:: 3",
		"Content-Length: +3", "Content-Length: -3", "Content-Length: -0", "Content-Length: 3.0", "Content-Length: 0x3", "Content-Length: 1e1", "Content-Length: 1_0", "Content-Length: a", "Content-Length: 3a", "Content-Length: ٣", "Content-Length: 3;", "Content-Length: 3, 4", "Content-Length: 3 4",
		"Content-Length: 12345678901", "Content-Length: 00000000003", "Content-Length: 99999999999999999999999999", "Content-Length: 18446744073709551618", "Content-Length: 3: 4",
	} {
		broken(t, line+"\r\n", "ErrSyntax")
		broken(t, line+"\r\nContent-Length: 1\r\n\r\na", "ErrSyntax")
		broken(t, "Content-Length: 1\r\n"+line+"\r\n\r\na", "ErrSyntax")
		broken(t, "X: y\r\n"+line+"\r\n", "ErrSyntax")
		broken(t, Frame("a")+Frame("")+line+"\r\n", "ErrSyntax", "a", "")
		// it is one only when its end is there
		answers(t, line+"\r", "[] OK", "\n", "[] ErrSyntax")
	}
}

func TestJ4NoLength(t *testing.T) {
	broken(t, "\r\n", "ErrSyntax")
	broken(t, "X: y\r\n\r\n", "ErrSyntax")
	broken(t, Frame("a")+"\r\n", "ErrSyntax", "a")
	broken(t, Frame("a")+"X: y\r\n\r\nb", "ErrSyntax", "a")
	broken(t, Frame("")+"\r\n"+Frame("b"), "ErrSyntax", "")
}

func TestJ4Lengths(t *testing.T) {
	for _, digits := range []string{"3", "03", "003", "0000000003"} {
		fine(t, "Content-Length: "+digits+"\r\n\r\nabc"+Frame("d"), "abc", "d")
	}
	for _, digits := range []string{"0", "00", "0000000000"} {
		fine(t, "Content-Length: "+digits+"\r\n\r\n"+Frame("d"), "", "d")
	}
	// more than comes
	for _, digits := range []string{"9999999999", "4294967296", "4294967297", "2147483648", "1234567890", "1001"} {
		answers(t, "Content-Length: "+digits+"\r\n\r\n", "[] OK", Frame("a"), "[] OK", strings.Repeat("\r\n", 480), "[] OK")
	}
}

// Of several the last one counts, also if it is the lesser one, and only in its own frame.
func TestJ4SeveralLengths(t *testing.T) {
	fine(t, "Content-Length: 1\r\nContent-Length: 3\r\n\r\nabc", "abc")
	fine(t, "Content-Length: 3\r\nX: y\r\nContent-Length: 1\r\n\r\na"+Frame("b"), "a", "b")
	fine(t, "Content-Length: 3\r\nContent-Length: 0\r\n\r\n"+Frame("b"), "", "b")
	fine(t, "Content-Length: 9999999999\r\nContent-Length: 2\r\ncontent-length: 7\r\n\r\nab", "ab")
	broken(t, "Content-Length: 3\r\nContent-Length: x\r\n\r\nabc", "ErrSyntax")
	broken(t, "Content-Length: x\r\nContent-Length: 3\r\n\r\nabc", "ErrSyntax")
}

// lineOf gives a line that is passed over, of so many bytes.
func lineOf(bytes int) string { return "X:" + strings.Repeat("y", bytes-2) }

func TestJ4LongLines(t *testing.T) {
	fine(t, lineOf(999)+"\r\n"+Frame("a"), "a")
	fine(t, lineOf(1000)+"\r\n"+Frame("a"), "a")
	fine(t, lineOf(1000)+"\r\n"+lineOf(1000)+"\r\n"+Frame("a")+lineOf(1000)+"\r\n"+Frame("b"), "a", "b")
	for _, n := range []int{1001, 1002, 1003, 2000, 100000} {
		broken(t, lineOf(n)+"\r\n"+Frame("a"), "ErrFull")
		broken(t, lineOf(n), "ErrFull")
		broken(t, Frame("a")+"Content-Length: 1\r\n"+lineOf(n)+"\r\n\r\nb", "ErrFull", "a")
		broken(t, strings.Repeat("x", n)+"\r\n", "ErrFull") // whatever else is wrong with it
		broken(t, strings.Repeat("\n", n)+"\r\n", "ErrFull")
		broken(t, "Content-Length: "+strings.Repeat("0", n), "ErrFull")
	}
	broken(t, strings.Repeat("x", 1000)+"\r\n", "ErrSyntax")
	broken(t, "Content-Length: "+strings.Repeat("0", 984)+"\r\n", "ErrSyntax")
	broken(t, "Content-Length: "+strings.Repeat("0", 985)+"\r\n", "ErrFull")
}

// It is told as soon as it must be so; a byte 13 may be the begin of the end.
func TestJ4LongLinesThatHaveNotEnded(t *testing.T) {
	for _, line := range []string{lineOf(1000), strings.Repeat("x", 1000), strings.Repeat("\n", 1000), strings.Repeat("x\r", 500)} {
		answers(t, line, "[] OK", "y", "[] ErrFull")
		answers(t, line[:999], "[] OK", line[999:]+"y", "[] ErrFull", "\r\n", "[] ErrFull")
		answers(t, line, "[] OK", "\r", "[] OK", "", "[] OK", "\r", "[] ErrFull")
		answers(t, line, "[] OK", "\r", "[] OK", "y", "[] ErrFull")
		answers(t, line, "[] OK", "\r\r", "[] ErrFull", "\n", "[] ErrFull")
		answers(t, line, "[] OK", "\r", "[] OK", "\r\n", "[] ErrFull")
	}
	answers(t, lineOf(1000), "[] OK", "\r", "[] OK", "\n", "[] OK", Frame("a"), `["a"] OK`)
	answers(t, lineOf(1000)+"\r", "[] OK", "\n"+Frame("a"), `["a"] OK`)
	answers(t, lineOf(999)+"\r", "[] OK", "\r", "[] OK", "\n", "[] OK", Frame("a"), `["a"] OK`)
	answers(t, strings.Repeat("\r", 1001), "[] OK", "\n", "[] ErrSyntax")
	answers(t, strings.Repeat("\r", 1001), "[] OK", "\r", "[] ErrFull")
	// the bytes of a body, or of another line, do not count
	answers(t, Frame(strings.Repeat("x", 3000))+lineOf(1000), fmt.Sprintf("[%q] OK", strings.Repeat("x", 3000)), "y", "[] ErrFull")
	answers(t, "Content-Length: 5000\r\n\r\n", "[] OK", strings.Repeat("x", 4999), "[] OK", "x", fmt.Sprintf("[%q] OK", strings.Repeat("x", 5000)))
}

// From then on nothing but this error, whatever comes.
func TestJ4BehindAnError(t *testing.T) {
	for in, name := range map[string]string{"bad\r\n": "ErrSyntax", "\r\n": "ErrSyntax", lineOf(1001): "ErrFull"} {
		answers(t, Frame("a")+in+Frame("b"), `["a"] `+name, Frame("c"), "[] "+name, "", "[] "+name, "worse\r\n", "[] "+name, lineOf(2000), "[] "+name, "\r\n", "[] "+name)
	}
}

// Readers do not hang on each other.
func TestJ4SeveralReaders(t *testing.T) {
	a, b := New(), New()
	a.Feed("Content-Length: 2\r\n\r\nx")
	b.Feed("bad\r\n")
	if got, err := a.Feed("y"); err != nil || !slices.Equal(got, []string{"xy"}) {
		t.Errorf("%q %v", got, err)
	}
	if got, err := New().Feed(Frame("z")); err != nil || !slices.Equal(got, []string{"z"}) {
		t.Errorf("%q %v", got, err)
	}
	if got, err := b.Feed(Frame("z")); len(got) > 0 || errorName(t, err) != "ErrSyntax" {
		t.Errorf("%q %v", got, err)
	}
	var all sync.WaitGroup
	for range 8 {
		all.Go(func() {
			for range 100 {
				answers(t, Frame("a")+"Content-Len", `["a"] OK`, "gth: 1\r\n\r\nb"+Frame(""), `["b" ""] OK`, "\r\n", "[] ErrSyntax")
			}
		})
	}
	all.Wait()
}

// Lists that come out are the caller's.
func TestJ4ListsAreTheCallers(t *testing.T) {
	r := New()
	first, _ := r.Feed(Frame("a") + Frame("b"))
	second, _ := r.Feed(Frame("c") + Frame("d") + "bad\r\n")
	clear(first[:cap(first)])
	if !slices.Equal(second, []string{"c", "d"}) {
		t.Errorf("%q", second)
	}
	clear(second[:cap(second)])
	if third, err := r.Feed(""); len(third) > 0 || errorName(t, err) != "ErrSyntax" {
		t.Errorf("%q %v", third, err)
	}
}
