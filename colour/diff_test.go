package colour

import (
	"fmt"
	"math"
	"slices"
	"strings"
	"sync"
	"testing"

	"amanuensis/api"
)

// row gives a colour for each letter: one that no other letter has.
func row(letters string) []api.Colour {
	var all []api.Colour
	for _, c := range letters {
		all = append(all, api.Colour{Unit: 1, Len: 1, Kind: int(c)})
	}
	return all
}

// letters gives those of a row.
func letters(all []api.Colour) string {
	var out strings.Builder
	for _, c := range all {
		out.WriteRune(rune(c.Kind))
	}
	return out.String()
}

func TestG2Diff(t *testing.T) {
	for _, c := range []struct {
		a, b     string
		at, drop int
		put      string
	}{
		{"abc", "axc", 1, 1, "x"},
		{"abcdef", "abxyef", 2, 2, "xy"},
		{"abcd", "xyz", 0, 4, "xyz"},
		{"abcd", "axyzd", 1, 2, "xyz"},
		// one is empty, or both
		{"", "", 0, 0, ""},
		{"", "abc", 0, 0, "abc"},
		{"abc", "", 0, 3, ""},
		// the same
		{"a", "a", 1, 0, ""},
		{"abc", "abc", 3, 0, ""},
		{"aaa", "aaa", 3, 0, ""},
		// one begins with the other
		{"ab", "abc", 2, 0, "c"},
		{"abcd", "ab", 2, 2, ""},
		// one ends with the other
		{"bc", "abc", 0, 0, "a"},
		{"abcd", "cd", 0, 2, ""},
		// one begins and ends with the other
		{"aba", "a", 1, 2, ""},
		{"a", "aba", 1, 0, "ba"},
		{"abab", "ab", 2, 2, ""},
		{"ab", "abab", 2, 0, "ab"},
		// the same colours again and again: none counts twice
		{"aaa", "aa", 2, 1, ""},
		{"aa", "aaa", 2, 0, "a"},
		{"aaaaaaa", "aaa", 3, 4, ""},
		{"aaabaaa", "aaaaaa", 3, 1, ""},
		{"aaaaaa", "aaabaaa", 3, 0, "b"},
		{"aabaa", "aaa", 2, 2, ""},
		{"aaa", "aabaa", 2, 0, "ba"},
		{"ababa", "aba", 3, 2, ""},
		{"aba", "ababa", 3, 0, "ba"},
		{"abcabc", "abc", 3, 3, ""},
		{"abcabd", "abd", 2, 3, ""},
		{"abba", "aba", 2, 1, ""},
		{"aba", "abba", 2, 0, "b"},
		// those between that are the same count for nothing
		{"abcde", "xbcdy", 0, 5, "xbcdy"},
		{"aXbYc", "aPbQc", 1, 3, "PbQ"},
	} {
		at, drop, put := Diff(row(c.a), row(c.b))
		if at != c.at || drop != c.drop || letters(put) != c.put {
			t.Errorf("%s, %s: %d %d %s, want %d %d %s", c.a, c.b, at, drop, letters(put), c.at, c.drop, c.put)
		}
		if got, err := Patch(row(c.a), at, drop, put); err != nil || letters(got) != c.b {
			t.Errorf("%s, %s: back %s, %v", c.a, c.b, letters(got), err)
		}
	}
}

// Colours are the same only if each of their fields is; whatever numbers they have.
func TestG2ColoursThatAreNotQuiteTheSame(t *testing.T) {
	one := api.Colour{Line: math.MinInt, Unit: -1, Len: math.MaxInt, Kind: 99}
	for _, other := range []api.Colour{
		{Line: math.MaxInt, Unit: -1, Len: math.MaxInt, Kind: 99},
		{Line: math.MinInt, Unit: 1, Len: math.MaxInt, Kind: 99},
		{Line: math.MinInt, Unit: -1, Len: 0, Kind: 99},
		{Line: math.MinInt, Unit: -1, Len: math.MaxInt, Kind: -99},
	} {
		at, drop, put := Diff([]api.Colour{one, one, one}, []api.Colour{one, other, one})
		if at != 1 || drop != 1 || !slices.Equal(put, []api.Colour{other}) {
			t.Errorf("%v: %d %d %v", other, at, drop, put)
		}
	}
}

// A token that moves within its line is another colour, and those behind it stay.
func TestG2DiffOfTexts(t *testing.T) {
	at, drop, put := Diff(colours(t, "def f = 1;\ndef g = 2;"), colours(t, "def f =\n\n 1;\ndef g = 2;"))
	if at != 3 || drop != 1 || fmt.Sprint(put) != "[{2 1 1 2}]" {
		t.Error(at, drop, put)
	}
	at, drop, put = Diff(colours(t, "def f = 1; def g = f;"), colours(t, "def f = 1; def g = h;"))
	if at != 8 || drop != 1 || fmt.Sprint(put) != "[{0 2 1 12}]" {
		t.Error(at, drop, put)
	}
	at, drop, put = Diff(colours(t, "def f = 1;"), colours(t, " \n def f = 1;\n"))
	if at != 0 || drop != 1 || fmt.Sprint(put) != "[{1 1 3 1}]" {
		t.Error(at, drop, put)
	}
}

func TestG2Patch(t *testing.T) {
	for _, c := range []struct {
		a        string
		at, drop int
		put      string
		want     string
	}{
		{"abcd", 1, 2, "xyz", "axyzd"},
		// at the beginning, and at the end
		{"abcd", 0, 1, "x", "xbcd"},
		{"abcd", 0, 0, "x", "xabcd"},
		{"abcd", 3, 1, "x", "abcx"},
		{"abcd", 4, 0, "x", "abcdx"},
		// nothing taken out, nothing put in
		{"abcd", 2, 0, "xy", "abxycd"},
		{"abcd", 1, 2, "", "ad"},
		{"abcd", 2, 0, "", "abcd"},
		{"abcd", 4, 0, "", "abcd"},
		// all of it
		{"abcd", 0, 4, "xy", "xy"},
		{"abcd", 0, 4, "", ""},
		{"", 0, 0, "", ""},
		{"", 0, 0, "xy", "xy"},
	} {
		if got, err := Patch(row(c.a), c.at, c.drop, row(c.put)); err != nil || letters(got) != c.want {
			t.Errorf("%v: %s, %v", c, letters(got), err)
		}
	}
}

func TestG2PatchOfWhatIsNotThere(t *testing.T) {
	most, least := math.MaxInt, math.MinInt
	for _, c := range []struct {
		a        string
		at, drop int
	}{
		{"abc", -1, 0}, {"abc", -1, 1}, {"abc", -1, 2}, {"abc", 0, -1}, {"abc", 1, -1}, {"abc", 3, -1}, {"abc", -1, -1},
		{"abc", 0, 4}, {"abc", 1, 3}, {"abc", 3, 1}, {"abc", 4, 0}, {"abc", 4, -1}, {"abc", 5, -2},
		{"", 0, 1}, {"", 1, 0}, {"", 1, -1}, {"", -1, 1},
		{"abc", most, 0}, {"abc", 0, most}, {"abc", 1, most}, {"abc", 3, most}, {"abc", most, 1}, {"abc", most, most},
		{"abc", least, 0}, {"abc", 0, least}, {"abc", 1, least}, {"abc", least, least}, {"abc", most, least}, {"abc", least, most},
		{"abc", least, 3}, {"abc", 2, most - 1}, {"", most, most}, {"", least, least}, {"", most, least},
	} {
		for _, put := range []string{"", "xy"} {
			if got, err := Patch(row(c.a), c.at, c.drop, row(put)); len(got) > 0 || errorName(t, err) != "ErrRange" {
				t.Errorf("%v: %s, %v", c, letters(got), err)
			}
		}
	}
}

// withMore gives a row behind whose length others lie, and all of them.
func withMore(some string) (part, all []api.Colour) {
	all = row(some + "QQQQQQQQ")
	return all[:len(some)], all
}

// What is handed in is neither written into nor handed out, nor what lies behind it.
func TestG2ListsAreTheCallers(t *testing.T) {
	for _, c := range [][2]string{{"abcd", "axyd"}, {"abcd", "ad"}, {"ad", "abcd"}, {"abcd", "abcd"}, {"", "abc"}, {"abc", ""}, {"ab", "abc"}, {"bc", "abc"}} {
		a, allA := withMore(c[0])
		b, allB := withMore(c[1])
		at, drop, put := Diff(a, b)
		text := letters(put)
		got, err := Patch(a, at, drop, put)
		if err != nil || letters(got) != c[1] {
			t.Fatalf("%q: %s, %v", c, letters(got), err)
		}
		clear(got[:cap(got)])
		if letters(put) != text {
			t.Errorf("%q: what is put in shares memory with what comes out", c)
		}
		clear(put[:cap(put)])
		if letters(allA) != c[0]+"QQQQQQQQ" || letters(allB) != c[1]+"QQQQQQQQ" {
			t.Errorf("%q: %s, %s", c, letters(allA), letters(allB))
		}
	}
}

// A row may be patched by itself.
func TestG2PatchByItself(t *testing.T) {
	a := row("abc")
	if got, err := Patch(a, 1, 1, a); err != nil || letters(got) != "aabcc" || letters(a) != "abc" {
		t.Errorf("%s, %v; %s", letters(got), err, letters(a))
	}
	if got, err := Patch(a, 0, 0, a[1:]); err != nil || letters(got) != "bcabc" || letters(a) != "abc" {
		t.Errorf("%s, %v; %s", letters(got), err, letters(a))
	}
	if at, drop, put := Diff(a, a[:1]); at != 1 || drop != 2 || len(put) != 0 {
		t.Error(at, drop, put)
	}
}

// Calls do not hang on each other.
func TestG2CallsAtTheSameTime(t *testing.T) {
	a, b := row("abcabc"), row("abxbc")
	var all sync.WaitGroup
	for range 8 {
		all.Go(func() {
			for range 200 {
				at, drop, put := Diff(a, b)
				if got, err := Patch(a, at, drop, put); err != nil || !slices.Equal(got, b) {
					t.Errorf("%v, %v", got, err)
				}
			}
		})
	}
	all.Wait()
}
