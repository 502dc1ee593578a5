package scope

import (
	"math"
	"slices"
	"strings"
	"testing"

	"amanuensis/api"
	"amanuensis/syntax"
)

// Every place, and every piece, of some files: the names there are those that going through all of them finds.
func TestB3NamesAtPlaces(t *testing.T) {
	all := files("def x(yy) = [yy, é]; z", "", "use a.x;pub def éé=x")
	names, err := Resolve(all)
	if err != nil {
		t.Fatal(err)
	}
	numbers := []int{math.MinInt, -2, math.MaxInt - 1, math.MaxInt}
	for at := -1; at < 24; at++ {
		numbers = append(numbers, at)
	}
	found := 0
	for file, f := range all {
		for _, at := range numbers {
			want := slices.IndexFunc(names, func(n api.Use) bool {
				return n.File == file && n.At <= at && at <= n.At+len(Text(f.Text, n.At))
			})
			got, ok := At(names, file, f.Text, at)
			if ok != (want >= 0) || ok && got != names[want] || !ok && got != (api.Use{}) {
				t.Errorf("file %d, at %d: %v, %v", file, at, got, ok)
			}
			if ok {
				found++
			}
		}
		for from := range 24 {
			for to := from; to < 24; to++ {
				var want []api.Use
				for _, n := range names {
					if n.File == file && from <= n.At && n.At < to {
						want = append(want, n)
					}
				}
				if got := Within(names, file, from, to); !slices.Equal(got, want) {
					t.Errorf("file %d, %d to %d: %v, want %v", file, from, to, got, want)
				}
			}
		}
	}
	if found < 20 {
		t.Errorf("%d places have names", found)
	}
	if got := Text("def éé=x", 4); got != "éé" {
		t.Errorf("%q", got)
	}
}

func TestN2NamesThatAFileHas(t *testing.T) {
	w := Open(syntax.Files(files(
		"def x = 1; use b.y; use b.z as v; use b.x as x; use b.hidden; use q.y as m; use a.w as r; use a.r as w; use b.y as; use b. as n; def; def u(k) = let l = 1 in l; def y = 2;",
		"", "")))
	if got := strings.Join(w.Has(0), " "); got != "x u" {
		t.Errorf("%s", got)
	}
	w = Open(syntax.Files(files(
		"def x = 1; use b.y; use b.z as v; use b.x as x; use b.hidden; use q.y as m; use a.w as r; use a.r as w; use b.y as; use b. as n; def; def u(k) = let l = 1 in l; def y = 2;",
		"pub def y = 1; pub use c.z; pub def x = 1; def hidden = 1; use c.z as own;",
		"pub def z = 1;")))
	for i, want := range []string{"x y v u", "y z x hidden own", "z"} {
		if got := strings.Join(w.Has(i), " "); got != want {
			t.Errorf("file %d: %s, want %s", i, got, want)
		}
	}
}

// Names in a def are told as they are now; all others stay.
func TestN3NamesInADef(t *testing.T) {
	read := syntax.Files(files("pub def y = 1;", "def x = 1; use a.y; def f(x) = [x, y, z];"))
	w := Open(read)
	all := w.Names()
	d, ok := read[1].Items[2].(*syntax.Def)
	if !ok {
		t.Fatal("no def")
	}
	own := slices.DeleteFunc(slices.Clone(all), func(n api.Use) bool { return n.File != 1 || n.At <= d.Name.At })
	if got := w.Inner(1, d); !slices.Equal(got, own) || len(got) != 4 {
		t.Errorf("%v, want %v", got, own)
	}
	d.Params.Names[0].Text = "z"
	want := slices.Clone(own)
	want[1].To = 4   // the first def
	want[3] = own[1] // it stands for the parameter
	want[3].At = own[3].At
	if got := w.Inner(1, d); !slices.Equal(got, want) {
		t.Errorf("%v, want %v", got, want)
	}
	d.Params.Names[0].Text = "x"
	if got := w.Names(); !slices.Equal(got, all) {
		t.Errorf("%v, want %v", got, all)
	}
}
