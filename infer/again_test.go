package infer

import (
	"slices"
	"testing"

	"amanuensis/scope"
	"amanuensis/syntax"
)

// read reads files, and finds all types of them.
func read(texts ...string) (*Workspace, []syntax.File) {
	all := syntax.Files(files(texts...))
	w := Read(all, scope.Names(all))
	w.FindAll()
	return w, all
}

// The group of each def alone is that which is found beside all others.
func TestY2OneGroup(t *testing.T) {
	w, _ := read(
		"pub def a = b; def b = [c, a]; def c = d; def d = 1; use b.x; def e = [x, e, b]; def f(f) = f; def a = f;",
		"use a.a; pub def x = [y, ?]; def y = x; def z = a(z);")
	groups := w.Groups()
	if len(groups) != len(w.Defs)-2 {
		t.Errorf("%v", groups)
	}
	for d := range w.Defs {
		i := slices.IndexFunc(groups, func(g []int) bool { return slices.Contains(g, d) })
		if got := w.Group(d); !slices.Equal(got, groups[i]) {
			t.Errorf("of %d: %v, want %v", d, got, groups[i])
		}
	}
}

// A group has types, whether they are told or not.
func TestY2TypedOrNot(t *testing.T) {
	w, _ := read("def a = 1; def b = a + true; def c = [c]; def d = [b, 1]; def e = f; def f = [e, ?] == [];")
	for _, g := range w.Groups() {
		found := w.Find(g)
		want := !slices.Contains([]int{1, 2}, g[0])
		if w.Typed(g) != want || found[0].Typed() != want || w.Defs[g[0]].Found.Typed() != want {
			t.Errorf("%v: %v, %v", g, w.Typed(g), found)
		}
	}
}

// A name in a def is made another one: what it leads to, and what it comes to be, is what is found when all is read anew.
func TestY2DefsAgain(t *testing.T) {
	for _, name := range []string{"x", "n", "y", "nothing", "f", "g"} {
		w, all := read("def n = 1; def f(x) = if [x, ?] == [] then y else \"\"; def y = \"\"; def g = [?, f] == [];")
		d, ok := all[0].Items[1].(*syntax.Def)
		if !ok {
			t.Fatal("no def")
		}
		choice, ok := d.Body.(*syntax.If)
		if !ok {
			t.Fatal("no if")
		}
		v, ok := choice.Then.(*syntax.Var)
		if !ok {
			t.Fatal("no name")
		}
		for _, now := range []string{name, "y", name} {
			v.Name.Text = now
			w.Again(1, scope.Open(all).Inner(0, d))
			anew := Read(all, scope.Names(all))
			if got, want := w.Groups(), anew.Groups(); !slices.EqualFunc(got, want, slices.Equal[[]int]) {
				t.Errorf("%s: %v, want %v", now, got, want)
			}
			w.FindAll()
			anew.FindAll()
			if got, want := w.Types(), anew.Types(); !slices.Equal(got, want) {
				t.Errorf("%s: %v, want %v", now, got, want)
			}
		}
	}
}
