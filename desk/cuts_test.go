package desk

import (
	"fmt"
	"strings"
	"testing"

	"amanuensis/api"
)

// stream is bytes that come, and how many requests are worked when so many of them are there.
type stream struct {
	text string
	work map[int]int
}

// streamed gives the bytes of an exchange.
func streamed(all []step) stream {
	s := stream{work: map[int]int{}}
	for _, one := range all {
		if one.body != "" {
			s.text += framed(one.body)
		} else {
			s.work[len(s.text)] += max(one.n, 0)
		}
	}
	return s
}

// told gives all that a desk answers to a stream that is also cut ahead of some bytes.
func (s stream) told(cut func(at int) bool) string {
	d := New()
	var out strings.Builder
	from := 0
	var last error
	for at := range len(s.text) + 1 {
		n, ok := s.work[at]
		if !ok && at < len(s.text) && !cut(at) {
			continue
		}
		err := d.Push(s.text[from:at])
		if err == nil && last != nil {
			err = fmt.Errorf("no longer %w", last)
		}
		from, last = at, err
		if ok {
			fmt.Fprintln(&out, d.Work(n), d.Waiting(), err)
		}
	}
	fmt.Fprintln(&out, d.Work(1000), d.Waiting(), last)
	return out.String()
}

// checkCuts cuts a stream in many ways; it makes no difference.
func (d *dice) checkCuts(t *testing.T, s stream) {
	t.Helper()
	want := s.told(func(int) bool { return false })
	if got := s.told(func(int) bool { return true }); got != want {
		t.Fatalf("%q, byte by byte:\ngot  %q\nwant %q", s.text, got, want)
	}
	for range 3 {
		few := 1 + d.roll(50)
		if got := s.told(func(int) bool { return d.roll(few) == 0 }); got != want {
			t.Fatalf("%q:\ngot  %q\nwant %q", s.text, got, want)
		}
	}
}

// Drawn exchanges that are cut as it comes, also where requests are worked, and that end, some of them, by what is no frame.
func TestD1DrawnCuts(t *testing.T) {
	d := dice(164)
	for i := range 300 {
		s := streamed(d.exchange(20))
		d.checkCuts(t, s)
		for range 3 {
			s.work[d.roll(len(s.text)+1)] = d.roll(3)
		}
		if i%3 == 0 {
			at := d.roll(len(s.text) + 1)
			s.text = s.text[:at] + d.one("\r\n\r\n", "x\r\n", strings.Repeat("z", 1001), "Content-Length: 3\r\n") + s.text[at:]
		}
		d.checkCuts(t, s)
	}
}

// An exchange that is cut in three, in every way there is.
func TestD1EveryCut(t *testing.T) {
	text := framed(opens("a", "def x = 1;")) + framed(asks(1, "eval", `"file":"a","name":"x","fuel":1`)) + framed(asks(2, "x", "")) + framed(cancels(2)) + framed(asks(2, "place", `"file":"a","at":3`))
	want := strings.Join([]string{right(1, `"1"`), wrong(2, api.ErrCancel), right(2, "[0,3,3]")}, " ")
	for i := 0; i <= len(text); i++ {
		for k := i; k <= len(text); k += 1 + (k-i)/9 {
			d := New()
			for _, piece := range []string{text[:i], text[i:k], text[k:]} {
				if err := d.Push(piece); err != nil {
					t.Fatal(err)
				}
			}
			if got := answers(t, d, 9); got != want {
				t.Fatalf("at %d, %d: %s", i, k, got)
			}
		}
	}
}

// As soon as a body is whole it is looked at, and not ahead of that.
func TestD1WholeBodies(t *testing.T) {
	d := New()
	text := framed(asks(1, "x", "")) + framed(asks(2, "x", ""))
	half := len(text) / 2
	for i := range len(text) {
		if want := i / half; d.Waiting() != want {
			t.Fatalf("%d wait behind %d bytes, want %d", d.Waiting(), i, want)
		}
		if err := d.Push(text[i : i+1]); err != nil {
			t.Fatal(err)
		}
	}
	if d.Waiting() != 2 {
		t.Errorf("%d wait", d.Waiting())
	}
}
