package run

import (
	"strings"
	"testing"
)

// checkBeginnings runs the beginnings of a session, each a whole line longer than the one ahead, and fails unless the answers to each are a beginning of those to the next one, and of all.
// It tells how many beginnings there were that had answers which were not all of them.
func checkBeginnings(t *testing.T, session string) int {
	t.Helper()
	all := Run(session)
	if all == full {
		return 0
	}
	parts, begin, last := 0, "", ""
	for _, line := range strings.SplitAfter(session, "\n") {
		begin += line
		got := Run(begin)
		if got == full {
			continue
		}
		if !strings.HasPrefix(all, got) || !strings.HasPrefix(got, last) {
			t.Fatalf("%q of %q:\ngot  %q\nhad  %q\nof   %q", begin, session, got, last, all)
		}
		if last = got; got != "" && got != all {
			parts++
		}
	}
	if last != all {
		t.Fatalf("%q:\ngot  %q\nwant %q", session, last, all)
	}
	return parts
}

// Drawn sessions, with all of their beginnings.
func TestX2Beginnings(t *testing.T) {
	d := dice(172)
	parts := 0
	for range 600 {
		parts += checkBeginnings(t, d.session(30))
	}
	for range 5000 {
		parts += checkBeginnings(t, d.noise())
	}
	for range 20 {
		parts += checkBeginnings(t, d.long())
	}
	if parts < 5000 {
		t.Errorf("%d beginnings had some of the answers", parts)
	}
}

// A session that goes on as another one does: the answers to it are those to its beginning, and more.
func TestX2GoesOn(t *testing.T) {
	d := dice(173)
	for range 1000 {
		begin, rest := d.session(20), d.session(20)
		if !strings.HasSuffix(begin, "\n") {
			begin += "\n"
		}
		ahead, all := Run(begin), Run(begin+rest)
		if ahead == full || all == full {
			continue
		}
		if !strings.HasPrefix(all, ahead) {
			t.Fatalf("%q, %q:\ngot  %q\nwant %q and more", begin, rest, all, ahead)
		}
	}
}

// As many lines as there may be: each beginning has the answers to its own lines, and no others.
func TestX2ManyLines(t *testing.T) {
	said, answers := []string{note(asks(1, "x", "")), note(asks(2, "x", ""))}, []string{"", ""}
	for range 666 {
		said, answers = append(said, "work 0", "", "x"), append(answers, "done 2\n", "", "error ErrSyntax\n")
	}
	for n := range len(said) + 1 {
		expect(t, lines(said[:n]...), strings.Join(answers[:n], ""))
	}
	expect(t, lines(append(said, "")...), full)
}
