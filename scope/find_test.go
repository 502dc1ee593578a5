package scope

import (
	"math"
	"slices"
	"testing"

	"amanuensis/api"
)

// Every place, and every piece, of some files: the names there are those that going through all of them finds.
func TestB3NamesAtPlaces(t *testing.T) {
	all := files("def x(yy) = [yy, é]; z", "", "use a.x;pub def éé=x")
	names, err := Resolve(all)
	if err != nil {
		t.Fatal(err)
	}
	numbers := []int{math.MinInt, -2, math.MaxInt - 1, math.MaxInt}
	for at := -1; at < 24; at++ {
		numbers = append(numbers, at)
	}
	found := 0
	for file, f := range all {
		for _, at := range numbers {
			want := slices.IndexFunc(names, func(n api.Use) bool {
				return n.File == file && n.At <= at && at <= n.At+len(Text(f.Text, n.At))
			})
			got, ok := At(names, file, f.Text, at)
			if ok != (want >= 0) || ok && got != names[want] || !ok && got != (api.Use{}) {
				t.Errorf("file %d, at %d: %v, %v", file, at, got, ok)
			}
			if ok {
				found++
			}
		}
		for from := range 24 {
			for to := from; to < 24; to++ {
				var want []api.Use
				for _, n := range names {
					if n.File == file && from <= n.At && n.At < to {
						want = append(want, n)
					}
				}
				if got := Within(names, file, from, to); !slices.Equal(got, want) {
					t.Errorf("file %d, %d to %d: %v, want %v", file, from, to, got, want)
				}
			}
		}
	}
	if found < 20 {
		t.Errorf("%d places have names", found)
	}
	if got := Text("def éé=x", 4); got != "éé" {
		t.Errorf("%q", got)
	}
}
