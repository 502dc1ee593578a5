package desk

import (
	"slices"
	"strings"
	"testing"

	"amanuensis/api"
)

// The table that init fills in has the methods of the chapter, in its order; nobody can write into it.
func TestD2Names(t *testing.T) {
	want := strings.Fields("notes types find uses place rename complete layout colours eval")
	table := Names()
	if !slices.Equal(table[:], want) {
		t.Errorf("Names: %q, want %q", table, want)
	}
	for i := range table {
		table[i] = "x"
	}
	if table = Names(); !slices.Equal(table[:], want) {
		t.Errorf("the table was written into: %q", table)
	}
	for _, s := range skills() {
		if len(want) == 0 || s.called != want[0] || s.do == nil {
			t.Errorf("%q, want the first one of %q", s.called, want)
			continue
		}
		want = want[1:]
	}
	if len(want) > 0 {
		t.Errorf("nothing does %q", want)
	}
}

// Each name of the table can be asked for, and no other one.
func TestD2NamesAreMethods(t *testing.T) {
	for _, name := range Names() {
		play(t, wrong(1, api.ErrSyntax), asks(1, name, ""))
		for _, other := range []string{name + "s", name[1:], strings.ToUpper(name), " " + name, name + " "} {
			play(t, wrong(1, api.ErrName), asks(1, other, ""))
		}
	}
}

// No answer goes by the table: it stands beside what they are worked out by.
func TestD2NoAnswerGoesByTheTable(t *testing.T) {
	defer func(was [10]string) { names = was }(names)
	names = [10]string{"hover"}
	play(t, right(1, "[]")+" "+wrong(2, api.ErrName)+" "+wrong(3, api.ErrName), opens("a", ""), asks(1, "notes", inA), asks(2, "hover", inA), asks(3, "", inA))
}
