package desk

import (
	"fmt"
	"slices"
	"strings"
	"testing"

	"amanuensis/api"
	"amanuensis/wire"
)

// idOf gives the id of a request, or of an answer.
func idOf(t *testing.T, body string) int {
	t.Helper()
	j, _, err := wire.Parse(body)
	id, ok := inside(j, api.JNum, "id")
	if err != nil || !ok {
		t.Fatalf("%q has no id", body)
	}
	return id.Num
}

// isRequest tells whether a body is one.
func isRequest(body string) bool {
	j, _, err := wire.Parse(body)
	_, request, _ := method(j)
	return err == nil && request
}

// Each request has one answer, in the order in which they came, when it has been worked, and not ahead of that.
func TestD3OneAnswerEach(t *testing.T) {
	d := dice(161)
	for range 1000 {
		desk := New()
		var asked, answered []int
		for _, s := range d.exchange(30) {
			if s.body != "" {
				say(t, desk, s.body)
				if isRequest(s.body) {
					asked = append(asked, idOf(t, s.body))
				}
				continue
			}
			more := bodies(t, desk.Work(s.n))
			if want := min(max(s.n, 0), len(asked)-len(answered)); len(more) != want {
				t.Fatalf("%d went out of %d, want %d", len(more), s.n, want)
			}
			for _, body := range more {
				answered = append(answered, idOf(t, body))
			}
			if desk.Waiting() != len(asked)-len(answered) {
				t.Fatalf("%d wait, want %d", desk.Waiting(), len(asked)-len(answered))
			}
		}
		if !slices.Equal(asked, answered) {
			t.Fatalf("%v were asked, %v answered", asked, answered)
		}
	}
}

// No answer is of a file as it was before a change that came behind the request: each text that a file has is another one, and says which.
func TestD3NeverOlder(t *testing.T) {
	type waits struct {
		id, file, n int // n: which text the file had when it came; -1: it was not there
		method      string
	}
	d := dice(162)
	stale, fresh := 0, 0
	for range 500 {
		desk := New()
		texts := []int{-1, -1, -1} // which one each file has
		var queue []waits
		for n := range 40 {
			file := d.roll(3)
			name := string(rune('a' + file))
			text := fmt.Sprintf("def v = %04d;", n)
			switch d.roll(6) {
			case 0:
				say(t, desk, opens(name, text))
				if texts[file] < 0 {
					texts[file] = n
				}
			case 1:
				say(t, desk, changes(name, n, 0, len(text), text))
				if texts[file] >= 0 {
					texts[file] = n
				}
			case 2, 3, 4:
				w := waits{n, file, texts[file], d.one("layout", "eval")}
				queue = append(queue, w)
				say(t, desk, asks(w.id, w.method, `"file":"`+name+`","name":"v","fuel":1`))
			case 5:
				for _, body := range bodies(t, desk.Work(d.roll(4))) {
					w := queue[0]
					queue = queue[1:]
					want := right(w.id, fmt.Sprintf(`"%d"`, w.n))
					if w.method == "layout" {
						want = right(w.id, fmt.Sprintf(`"def v = %04d;\n"`, w.n))
					}
					switch {
					case texts[w.file] < 0:
						want = wrong(w.id, api.ErrRange)
					case texts[w.file] != w.n:
						want = wrong(w.id, api.ErrStale)
						stale++
					default:
						fresh++
					}
					if body != want {
						t.Fatalf("%s, want %s", body, want)
					}
				}
			}
		}
	}
	if stale < 300 || fresh < 300 {
		t.Errorf("%d were stale, %d not", stale, fresh)
	}
}

// Who is cancelled changes nothing for the others: they have the answers that they have if the others never ask.
func TestD3CancelledForTheOthers(t *testing.T) {
	d := dice(163)
	cancelled, others := 0, 0
	for range 1500 {
		all := d.exchange(40)
		desk := New()
		var gone []bool // which requests, in their order, were cancelled
		var want []string
		rest := make([]int, len(all)) // how many of the others each step works
		for i, s := range all {
			if s.body != "" {
				say(t, desk, s.body)
				continue
			}
			for _, body := range bodies(t, desk.Work(s.n)) {
				is := strings.HasSuffix(body, `,"error":"ErrCancel"}`)
				gone = append(gone, is)
				if is {
					cancelled++
				} else {
					want = append(want, body)
					rest[i]++
					others++
				}
			}
		}
		if got := without(t, all, gone, rest); !slices.Equal(got, want) {
			t.Fatalf("%v:\ngot  %q\nwant %q", all, got, want)
		}
	}
	if cancelled < 1000 || others < 1000 {
		t.Errorf("%d were cancelled, %d not", cancelled, others)
	}
}

// without plays an exchange without the requests that are gone, and without what cancels, and gives the answers.
func without(t *testing.T, all []step, gone []bool, rest []int) []string {
	t.Helper()
	desk := New()
	var got []string
	asked := 0
	for i, s := range all {
		if s.body == "" {
			got = append(got, bodies(t, desk.Work(rest[i]))...)
			continue
		}
		if isRequest(s.body) {
			asked++
			if gone[asked-1] {
				continue
			}
		}
		j, _, _ := wire.Parse(s.body)
		if name, _, note := method(j); !note || name != "cancel" {
			say(t, desk, s.body)
		}
	}
	return got
}
