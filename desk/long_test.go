package desk

import (
	"fmt"
	"strings"
	"testing"
	"time"

	"amanuensis/api"
)

// soon fails if something takes long.
func soon(t *testing.T, do func()) {
	t.Helper()
	begin := time.Now()
	do()
	if spent := time.Since(begin); spent > 20*time.Second {
		t.Errorf("it took %v", spent)
	}
}

const many = 40000

// nothingKept fails if something is kept of requests that wait no longer.
func nothingKept(t *testing.T, d *Desk) {
	t.Helper()
	if d.Waiting() != 0 || d.queue.all != nil || len(d.queue.asks) != 0 {
		t.Errorf("%d wait, %d ids are kept", d.Waiting(), len(d.queue.asks))
	}
}

// Many requests, each with an id of its own, and many of one id; each is cancelled, or none is; they are worked one by one, or all at once.
func TestD2ManyRequests(t *testing.T) {
	for _, ids := range []int{many, 7, 1} {
		for _, cancel := range []bool{false, true} {
			for _, n := range []int{1, 1000, many} {
				soon(t, func() {
					var in strings.Builder
					for i := range many {
						in.WriteString(framed(asks(i%ids, "x", "")))
					}
					want := `"ErrName"}`
					for i := range many {
						if cancel {
							in.WriteString(framed(cancels(i)))
							want = `"ErrCancel"}`
						}
					}
					d := New()
					if err := d.Push(in.String()); err != nil || d.Waiting() != many {
						t.Fatalf("%v, %d wait", err, d.Waiting())
					}
					got := 0
					for range many / n {
						got += strings.Count(d.Work(n), want)
					}
					if got != many {
						t.Errorf("%d answers %s", got, want)
					}
					nothingKept(t, d)
				})
			}
		}
	}
}

// A long exchange in which few wait at a time.
func TestD2LongExchange(t *testing.T) {
	soon(t, func() {
		d := New()
		say(t, d, opens("a", "def x = 1;"))
		for i := range many {
			say(t, d, cancels(i+many), asks(i, "place", inA+`,"at":3`), asks(i+1, "x", ""))
			if i%5 == 0 {
				say(t, d, cancels(i))
			}
			if i%3 == 0 {
				say(t, d, changes("a", i+1, 8, 9, "2"))
			}
			if i > 2 && len(d.Work(2)) == 0 {
				t.Fatal("nothing went out")
			}
			if len(d.queue.asks) > 8 {
				t.Fatalf("%d ids are kept", len(d.queue.asks))
			}
		}
		d.Work(many)
		nothingKept(t, d)
	})
}

// All files as long as they may be, changed and asked in turn.
func TestD2LongFiles(t *testing.T) {
	soon(t, func() {
		d := New()
		text := "pub def x = 0000;" + strings.Repeat("def y = [x, ?]; -- é\n", 900)
		for i := range api.MaxFiles {
			say(t, d, opens(fmt.Sprintf("n%d", i), text))
		}
		for i := range 5 {
			file := fmt.Sprintf(`"file":"n%d"`, i)
			say(t, d, changes(fmt.Sprintf("n%d", i), 1, 12, 16, fmt.Sprintf("%04d", i)))
			for method, more := range wants() {
				params := file
				for _, key := range more {
					params += map[string]string{"at": `,"at":8`, "name": `,"name":"x"`, "fuel": `,"fuel":9`}[key]
				}
				say(t, d, asks(i, method, params))
			}
		}
		out := bodies(t, d.Work(1000))
		if len(out) != 50 {
			t.Errorf("%d went out", len(out))
		}
		for _, body := range out {
			if strings.Contains(body, `"error"`) && !strings.HasSuffix(body, `"error":"ErrRange"}`) { // complete, where no `?` stands
				t.Errorf("%.100s", body)
			}
		}
	})
}

// Long messages that say nothing.
func TestD1LongMessages(t *testing.T) {
	soon(t, func() {
		d := New()
		for _, body := range []string{
			"[" + strings.Repeat("{},", many) + "0]",
			strings.Repeat("[", many),
			`{"method":"open","params":{"file":"` + strings.Repeat("a", many) + `","text":"` + strings.Repeat("a", many) + `"}}`,
			`{"method":"` + strings.Repeat("a", many) + `"}`,
			strings.Repeat(" ", many),
		} {
			say(t, d, body)
		}
		if d.Waiting() != 0 {
			t.Errorf("%d wait", d.Waiting())
		}
		say(t, d, asks(1, strings.Repeat("a", many), ""), asks(2, "rename", `"file":"`+strings.Repeat("a", many)+`","at":1,"name":"`+strings.Repeat("a", many)+`"`))
		if got := answers(t, d, 9); got != wrong(1, api.ErrName)+" "+wrong(2, api.ErrRange) {
			t.Error(got)
		}
	})
}
