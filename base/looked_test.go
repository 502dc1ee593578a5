package base

import (
	"testing"

	"amanuensis/api"
)

// turn is a change of a file, `old` in it being replaced by `text` (an empty `old`: nothing is changed), and how many defs are then looked at.
type turn struct {
	file      int
	old, text string
	looked    int
}

// play begins with files, asks, and then does the turns, each with a question behind it; how many are looked at first is told ahead of them.
func play(t *testing.T, texts []string, first int, turns ...turn) {
	t.Helper()
	b := begin(t, texts...)
	if b.Looked() != 0 {
		t.Errorf("%q: %d looked at, though nobody asked", texts, b.Looked())
	}
	if b.Types(); b.Looked() != first {
		t.Errorf("%q: %d looked at, want %d", texts, b.Looked(), first)
	}
	for i, c := range turns {
		if c.old != "" {
			change(t, b, c.file, c.old, c.text)
		}
		if same(t, b, b.Files()); b.Looked() != c.looked {
			t.Errorf("%q: turn %d: %v: %d looked at, want %d", texts, i, c, b.Looked(), c.looked)
		}
	}
}

func TestB4TheExample(t *testing.T) {
	play(t, []string{"def x = 1; def y = x;"}, 2, turn{0, "1", "22", 1}, turn{0, "22", "true", 2})
}

// Looked tells of the last time that the base was asked, by Types or by Notes; other calls do not ask.
func TestB4WhoAsks(t *testing.T) {
	b := begin(t, "def x = 1; def y = x;", "def z = 1;")
	want := func(want int, what string) {
		t.Helper()
		if b.Looked() != want {
			t.Errorf("%s: %d, want %d", what, b.Looked(), want)
		}
	}
	others := func(looked int) {
		t.Helper()
		b.Files()
		b.Names()
		b.Where(0, 4)
		b.Uses(0, 4)
		b.Notes(2)
		b.Change(api.Patch{File: 2})
		want(looked, "others")
	}
	others(0)
	b.Notes(1) // asks for all files
	want(3, "notes")
	others(3)
	b.Types()
	want(0, "types, once more")
	change(t, b, 0, "1", "2")
	others(0)
	change(t, b, 0, "2", "3")
	b.Notes(0)
	want(1, "notes")
	others(1)
	change(t, b, 0, "3", "true")
	others(1)
	b.Types()
	want(2, "types")
	b.Notes(0)
	want(0, "notes, once more")
	change(t, b, 0, "true", "4")
	change(t, b, 0, "4", "true") // nobody asked between
	b.Notes(0)
	want(0, "back again")
}

// Only the last time counts: what was there earlier is forgotten.
func TestB4OnlyTheLastTime(t *testing.T) {
	play(t, []string{"def x = 1; def y = x;"}, 2,
		turn{0, "1", "true", 2}, turn{0, "true", "1", 2}, turn{0, "", "", 0}, turn{0, "def x = 1;", "", 1}, turn{0, "def y", "def x = 1; def y", 2})
}

func TestB4SpacesAndRemarks(t *testing.T) {
	play(t, []string{"def x = 1; def y(z) = [z, x];"}, 2,
		turn{0, "def x", " -- so\n def x", 0},   // ahead of all
		turn{0, "def y", "{- so -}\tdef y", 0},  // between items
		turn{0, "x];", "x]; -- the end", 0},     // behind all
		turn{0, "= 1", "=  1", 1},               // within x
		turn{0, "y(z)", "y{- so -}(z)", 1},      // within y
		turn{0, "{- so -}(z)", "{- é -}(z)", 1}, // of the same length, nearly
		turn{0, "x];", "x ];", 1},
		turn{0, "-- the end", "", 0},
		turn{0, "1;", "1 ;", 1},
		turn{0, "1 ;", "1;", 1},
	)
	// what is no item counts for nothing
	play(t, []string{"junk; def x = 1; def y = x;"}, 2, turn{0, "junk;", "", 0}, turn{0, "1;", "1; more; ;", 0}, turn{0, "def y", "def = 1 + true; def y", 0})
	// `pub` is the item's
	play(t, []string{"def x = 1; def y = x;"}, 2, turn{0, "def x", "pub def x", 1}, turn{0, "def x", "  def x", 1}, turn{0, "pub", " pub", 0}, turn{0, "pub   ", "", 1})
	// so is a `;` that is missing
	play(t, []string{"def x = 1; def y = x;"}, 2, turn{0, "1;", "1", 1}, turn{0, "x;", "x", 1}, turn{0, "= x", "= x ", 0})
}

// What hangs on a def is looked at anew only if its type is another one.
func TestB4TypesOfOthers(t *testing.T) {
	play(t, []string{"def x = 1; def y = [x]; def z = y;"}, 3,
		turn{0, "1", "2 + 3", 1},
		turn{0, "2 + 3", "\"s\"", 3},
		turn{0, "[x]", "[\"s\"]", 1}, // y no longer hangs on x
		turn{0, "x = \"s\"", "x = 7", 1},
		turn{0, "[\"s\"]", "[true, x]", 2}, // no type: z is free
		turn{0, "x = 7", "x = 8", 1},
		turn{0, "x = 8", "x = true", 3},
		turn{0, "true, x", "x, true", 1},
		turn{0, "def x = true;", "", 1}, // x stands for nothing, the list is one of truths
		turn{0, "x, true", "true", 1},
	)
	// variables by other names are none: a type is another one by its text
	play(t, []string{"def f(x, y) = x; def g = f;"}, 2, turn{0, "= x", "= (x)", 1}, turn{0, "= (x)", "= y", 2}, turn{0, "= y", "= ?", 2})
	// a def that has no type, and one that has: `a`
	play(t, []string{"def f = f(f); def g = f;"}, 2, turn{0, "f(f)", "1 + true", 1}, turn{0, "1 + true", "?", 2})
}

func TestB4WhatNamesStandFor(t *testing.T) {
	// of a parameter or a let: by where it is named in the item
	play(t, []string{"def f(x) = let y = x in y;"}, 1,
		turn{0, "def f", "   def f", 0},
		turn{0, "in y", "in x", 1},
	)
	// of another def, though its type is the same
	play(t, []string{"def x = 1; def y = 1; def z = x;"}, 3, turn{0, "= x", "= y", 1})
	// an item that has the name instead: the text of z is the same
	play(t, []string{"use b.x; def z = x;", "pub def x = 1; pub def y = 1;"}, 3,
		turn{0, "b.x", "b.y as x", 1},
		turn{0, "b.y as x", "b.x", 1},
		turn{0, "b.x", "b.none", 1},
		turn{0, "b.none", "a.x", 0}, // a ring: it stands for nothing, as it did
		turn{0, "use a.x;", "", 0},
		turn{0, "def z", "def x = 1; def z", 2}, // x of this file: another def
	)
	// a name that stands for a def through a use, and then right for it
	play(t, []string{"pub def x = 1; use a.x as y; def z = y;"}, 2, turn{0, "x as y", "none as y", 1}, turn{0, "none as y", "x as y", 1},
		turn{0, "use a.x as y;", "use b.y;", 1})
	play(t, []string{"def z = y;", "pub use c.y;", "pub def y = 1;"}, 2, turn{0, "def z", "use b.y; def z", 1}, turn{0, "b.y", "c.y", 0})
	// from nothing to something that is free
	play(t, []string{"def z = y;"}, 1, turn{0, "def z", "def y = ?; def z", 2}, turn{0, "y = ?", "y = y", 1}, turn{0, "y = y", "q = y", 2})
	// one name comes to stand for what another one stood for
	play(t, []string{"use b.d as y; def k = [x, y];", "pub def d = 1;"}, 2, turn{0, "as y", "as x", 1}, turn{0, "as x", "as z", 1})
	// of two that are both of the group
	play(t, []string{"use b.f as h; pub def k = h;", "use a.k; pub def f = fun() => [g, k]; pub def g = fun() => [f, k];"}, 3, turn{0, "b.f", "b.g", 3}, turn{0, "b.g", "b.g ", 0})
	// names that are no variables of it do not count
	play(t, []string{"def f(x) = 1;"}, 1, turn{0, "def f", "def x = 2; def f", 1}, turn{0, "def x", "def y", 1})
}

func TestB4Groups(t *testing.T) {
	two := "def f(n) = g(n); def g(n) = f(n); def h = f(1);"
	// one of a group is changed: all of it is looked at, and h only if a type is another one
	play(t, []string{two}, 3, turn{0, "= g(n)", "= g( n )", 2}, turn{0, "= f(n)", "= f(n + 1)", 3}, turn{0, "n + 1", "n + 2", 2})
	// it falls apart, and comes together
	play(t, []string{two}, 3,
		turn{0, "= f(n)", "= n", 3},
		turn{0, "= n", "= ?", 3},
		turn{0, "= ?", "= f(n)", 2}, // all have the types that they had: h is as it was
		turn{0, "def g(n) = f(n);", "", 1},
		turn{0, "def h", "def g(n) = f(n); def h", 2},
	)
	// it grows by one that was alone
	play(t, []string{two}, 3, turn{0, "f(1)", "f(g)", 1}, turn{0, "f(g)", "f(1)", 1}, turn{0, "g(n);", "g(h);", 3}, turn{0, "g(h);", "g(n);", 3})
	// a def that stands in itself is alone all the same
	play(t, []string{"def f = f; def g = f;"}, 2, turn{0, "f = f", "f =  f", 1}, turn{0, "f =  f", "f = 1", 2})
	// a group of two files
	play(t, []string{"use b.g; pub def f(n) = g(n);", "use a.f; pub def g(n) = f(n);", "use a.f; def h = f;"}, 3,
		turn{0, "use b.g;", "use b.g ;", 0}, turn{1, "f(n)", "f(n + 1)", 3}, turn{1, "n + 1", "n - 1", 2}, turn{1, "use a.f;", "", 2})
}

// The defs of a group are told in their order, whichever leads to the others first.
func TestB4OrderOfAGroup(t *testing.T) {
	play(t, []string{"def a = b; def b = [c]; def c = a;", "def k = l; def l = k;"}, 5, turn{1, "def k", " def k", 0}, turn{0, "def a", "def q = c; def a", 1}, turn{0, "def q = c;", "def q = b;", 1})
}

func TestB4DefsOfOneName(t *testing.T) {
	// the second one is what the first one was when that is gone: they had other keys, and now it has that of the first one
	play(t, []string{"def x = 1; def x = 1; def y = x;"}, 3, turn{0, "def x = 1; def x", "def x", 0}, turn{0, "def y", "def x = 1; def y", 1})
	// one that comes ahead: those behind it have one more ahead, and y stands for another one of the same type
	play(t, []string{"def x = 1; def y = x;"}, 2, turn{0, "def x", "def x = 2; def x", 2})
	play(t, []string{"def x = 1; def y = x;"}, 2, turn{0, "def x", "def x = true; def x", 3})
	// one that comes behind
	play(t, []string{"def x = 1; def y = x;"}, 2, turn{0, "x;", "x; def x = true;", 1})
	// a use of this name is no def
	play(t, []string{"def x = 1; def y = x;"}, 2, turn{0, "def x", "use b.x; def x", 1}, turn{0, "use b.x; def x", "def x", 1})
	// two change places
	play(t, []string{"def x = 1; def x = true; def y = x;"}, 3, turn{0, "1; def x = true", "true; def x = 1", 3})
	play(t, []string{"def x = 1; def z = true; def y = x;"}, 3, turn{0, "x = 1; def z = true", "z = true; def x = 1", 0})
}

// The same texts in another file are other defs.
func TestB4FilesHaveNames(t *testing.T) {
	play(t, []string{"def x = 1;", ""}, 1, turn{1, "", "", 0})
	b := begin(t, "def x = 1;", "")
	b.Types()
	change(t, b, 0, "def x = 1;", "")
	patch(t, b, 1, api.Span{Text: "def x = 1;"})
	if b.Types(); b.Looked() != 1 {
		t.Errorf("%d looked at", b.Looked())
	}
	b = begin(t, "use b.x; def y = x;", "pub def x = 1;", "pub def x = 1;")
	b.Types()
	change(t, b, 0, "b.x", "c.x")
	if b.Types(); b.Looked() != 1 {
		t.Errorf("%d looked at", b.Looked())
	}
}

// The types of holes are kept with those of their defs, and stand where the holes do.
func TestB4Holes(t *testing.T) {
	b := begin(t, "def f(x) = [x, ?, 1, ?(true)]; def bad = ? + true;")
	b.Types()
	change(t, b, 0, "def f", "def z = 1; def f")
	if same(t, b, b.Files()); b.Looked() != 1 {
		t.Errorf("%d looked at", b.Looked())
	}
}

// A name that is the same may stand for something else, and texts that are alike may have names in another order.
func TestB4NamesWithin(t *testing.T) {
	play(t, []string{"def f(x) = let x = x in x;"}, 1, turn{0, "let x = x in x", "let y = x in x", 1}, turn{0, "let y = x in x", "let x = x in x", 1})
	play(t, []string{"def f(x, y) = x;"}, 1, turn{0, "x, y", "y, x", 1})
}
