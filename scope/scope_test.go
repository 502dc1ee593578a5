package scope

import (
	"errors"
	"fmt"
	"slices"
	"strings"
	"sync"
	"testing"

	"amanuensis/api"
)

// files of texts; they are called a, b, c ..
func files(texts ...string) []api.File {
	var all []api.File
	for i, t := range texts {
		all = append(all, api.File{Name: string(rune('a' + i)), Text: t})
	}
	return all
}

// show gives names as text: where it stands, its text, as what, for what it stands, and what is wrong.
func show(files []api.File, names []api.Use) string {
	as := []string{"def", "param", "let", "module", "item", "alias", "var"}
	var all []string
	for _, u := range names {
		text := files[u.File].Text[u.At:]
		end := strings.IndexFunc(text, func(r rune) bool { return strings.ContainsRune(" .,;()[]=+\n", r) })
		if end < 0 {
			end = len(text)
		}
		s := fmt.Sprint(u.File, ":", u.At, " ", text[:end], " ", as[u.As], " ", u.ToFile, ":", u.To)
		if u.Err != api.OK {
			s += " " + u.Err.Error()
		}
		all = append(all, s)
	}
	return strings.Join(all, ", ")
}

// told is what Resolve tells of files.
func told(t *testing.T, files []api.File) string {
	t.Helper()
	names, err := Resolve(files)
	if err != nil {
		t.Fatalf("%v: %v", files, err)
	}
	return show(files, names)
}

// check holds what is told of files against what should be; the last text is that.
func check(t *testing.T, rows [][]string) {
	t.Helper()
	for _, r := range rows {
		last := len(r) - 1
		if got := told(t, files(r[:last]...)); got != r[last] {
			t.Errorf("%q:\ngot  %s\nwant %s", r[:last], got, r[last])
		}
	}
}

func TestN1Faults(t *testing.T) {
	long := strings.Repeat(" ", api.MaxFile+1)
	many := func(n int) []api.File { return files(make([]string, n)...) }
	renamed := func(l []api.File, at int, name string) []api.File {
		l[at].Name = name
		return l
	}
	for _, c := range []struct {
		files []api.File
		err   api.Errno
	}{
		{nil, api.OK},
		{[]api.File{}, api.OK},
		{many(api.MaxFiles), api.OK},
		{many(api.MaxFiles + 1), api.ErrFull},
		{files(long[1:]), api.OK},
		{files(long), api.ErrFull},
		{files("", "", long), api.ErrFull},
		{renamed(files("", long), 0, ""), api.ErrFull},
		{renamed(many(api.MaxFiles+1), 0, "1"), api.ErrFull},
		{renamed(files("", long), 1, "a"), api.ErrFull},
		{renamed(files(""), 0, ""), api.ErrName},
		{renamed(files(""), 0, "use"), api.ErrName},
		{renamed(files(""), 0, "a b"), api.ErrName},
		{renamed(files(""), 0, "\xff"), api.ErrName},
		{renamed(files(""), 0, "1a"), api.ErrName},
		{renamed(files(""), 0, strings.Repeat("x", api.MaxWord)), api.OK},
		{renamed(files(""), 0, strings.Repeat("x", api.MaxWord+1)), api.ErrName},
		{renamed(files("", "", ""), 2, "a"), api.ErrTwice},
		{renamed(files("", "", ""), 2, "A"), api.OK},
		{renamed(renamed(files("", "", ""), 1, "a"), 2, ""), api.ErrTwice},
		{renamed(renamed(files("", "", ""), 1, ""), 2, "a"), api.ErrName},
		{renamed(renamed(files("", ""), 0, ""), 1, ""), api.ErrName},
	} {
		names, err := Resolve(c.files)
		var got api.Errno
		if err != nil && !errors.As(err, &got) || got != c.err || err != nil && got == api.OK {
			t.Errorf("%.60v: got %v, want %v", fmt.Sprint(c.files), err, c.err)
		}
		if len(names) > 0 {
			t.Errorf("%.60v: %v", fmt.Sprint(c.files), names)
		}
	}
}

func TestN1WhatCounts(t *testing.T) {
	check(t, [][]string{
		{""},
		{" -- def x = 1;", ""},
		{"x y; (z)", ""},
		{"x; def f = g; y; let z = 1 in z;", "0:7 f def 0:7, 0:11 g var -1:-1 ErrName"},
		{"use", ""},
		{"pub", ""},
		{"def (,) = let = 1 in fun(,) => ;", ""},
		{"def = x;", "0:6 x var -1:-1 ErrName"},
	})
}

func TestN2NamesOfAFile(t *testing.T) {
	check(t, [][]string{
		{"def f = 1; def f = f;", "0:4 f def 0:4, 0:15 f def 0:15 ErrTwice, 0:19 f var 0:4"},
		{"def f = f; def f = 1; def f = f;", "0:4 f def 0:4, 0:8 f var 0:4, 0:15 f def 0:15 ErrTwice, 0:26 f def 0:26 ErrTwice, 0:30 f var 0:4"},
		// a name that is missing is none, and none is twice
		{"def = 1; def = 2; def x = 3;", "0:22 x def 0:22"},
		// an NUse goes by what stands behind `as`
		{"def x = 1; use a.x as y; def z = y;", "0:4 x def 0:4, 0:15 a module 0:-1, 0:17 x item 0:4, 0:22 y alias 0:4, 0:29 z def 0:29, 0:33 y var 0:4"},
		{"use b.x; def x = 1; def y = x;", "pub def x = 2;", "0:4 b module 1:-1, 0:6 x item 1:8, 0:13 x def 0:13 ErrTwice, 0:24 y def 0:24, 0:28 x var 1:8, 1:8 x def 1:8"},
		{"def x = 1; use b.x; def y = x;", "pub def x = 2;", "0:4 x def 0:4, 0:15 b module 1:-1, 0:17 x item 1:8 ErrTwice, 0:24 y def 0:24, 0:28 x var 0:4, 1:8 x def 1:8"},
		{"use b.x as z; def x = z;", "pub def x = 2;", "0:4 b module 1:-1, 0:6 x item 1:8, 0:11 z alias 1:8, 0:18 x def 0:18, 0:22 z var 1:8, 1:8 x def 1:8"},
		{"def z = 1; use b.x as z; use b.x;", "pub def x = 2;", "0:4 z def 0:4, 0:15 b module 1:-1, 0:17 x item 1:8, 0:22 z alias 1:8 ErrTwice, 0:29 b module 1:-1, 0:31 x item 1:8, 1:8 x def 1:8"},
		// behind `as` nothing: the NUse has no name
		{"use b.x as; def x = x;", "pub def x = 2;", "0:4 b module 1:-1, 0:6 x item 1:8, 0:16 x def 0:16, 0:20 x var 0:16, 1:8 x def 1:8"},
		// a name that is longer than K2's is one here
		{"def " + strings.Repeat("x", 50) + " = " + strings.Repeat("x", 50) + ";", "0:4 " + strings.Repeat("x", 50) + " def 0:4, 0:57 " + strings.Repeat("x", 50) + " var 0:4"},
	})
}

func TestN3Defs(t *testing.T) {
	check(t, [][]string{
		{"def f(x) = x;", "0:4 f def 0:4, 0:6 x param 0:6, 0:11 x var 0:6"},
		{"def f() = f;", "0:4 f def 0:4, 0:10 f var 0:4"},
		{"def f(f) = f;", "0:4 f def 0:4, 0:6 f param 0:6, 0:11 f var 0:6"},
		{"def f(x, y, x) = x;", "0:4 f def 0:4, 0:6 x param 0:6, 0:9 y param 0:9, 0:12 x param 0:12 ErrTwice, 0:17 x var 0:6"},
		{"def f(x, , x, x) = x;", "0:4 f def 0:4, 0:6 x param 0:6, 0:11 x param 0:11 ErrTwice, 0:14 x param 0:14 ErrTwice, 0:19 x var 0:6"},
		{"def f(x) = 1; def g = x;", "0:4 f def 0:4, 0:6 x param 0:6, 0:18 g def 0:18, 0:22 x var -1:-1 ErrName"},
		{"def f = g; def g = f;", "0:4 f def 0:4, 0:8 g var 0:15, 0:15 g def 0:15, 0:19 f var 0:4"},
		{"def f = g;", "pub def g = 1;", "0:4 f def 0:4, 0:8 g var -1:-1 ErrName, 1:8 g def 1:8"},
	})
}

func TestN3LetsAndFuns(t *testing.T) {
	check(t, [][]string{
		{"def f = let x = x in x;", "0:4 f def 0:4, 0:12 x let 0:12, 0:16 x var -1:-1 ErrName, 0:21 x var 0:12"},
		{"def x = let x = x in x;", "0:4 x def 0:4, 0:12 x let 0:12, 0:16 x var 0:4, 0:21 x var 0:12"},
		{"def f(x) = let x = x in let x = x in x;", "0:4 f def 0:4, 0:6 x param 0:6, 0:15 x let 0:15, 0:19 x var 0:6, 0:28 x let 0:28, 0:32 x var 0:15, 0:37 x var 0:28"},
		{"def f = let x = let x = 1 in x in x;", "0:4 f def 0:4, 0:12 x let 0:12, 0:20 x let 0:20, 0:29 x var 0:20, 0:34 x var 0:12"},
		{"def f = [(let x = 1 in x), x];", "0:4 f def 0:4, 0:14 x let 0:14, 0:23 x var 0:14, 0:27 x var -1:-1 ErrName"},
		{"def f = let = 1 in x;", "0:4 f def 0:4, 0:19 x var -1:-1 ErrName"},
		{"def f(x) = fun(y) => [x, y, fun(x, x) => x];", "0:4 f def 0:4, 0:6 x param 0:6, 0:15 y param 0:15, 0:22 x var 0:6, 0:25 y var 0:15, 0:32 x param 0:32, 0:35 x param 0:35 ErrTwice, 0:41 x var 0:32"},
		{"def f = (fun(x) => x)(x);", "0:4 f def 0:4, 0:13 x param 0:13, 0:19 x var 0:13, 0:22 x var -1:-1 ErrName"},
		{"def f(x) = fun => x;", "0:4 f def 0:4, 0:6 x param 0:6, 0:18 x var 0:6"},
		{"def f = let g = fun(x) => g in if g then g(g) else g + g;", "0:4 f def 0:4, 0:12 g let 0:12, 0:20 x param 0:20, 0:26 g var -1:-1 ErrName, 0:34 g var 0:12, 0:41 g var 0:12, 0:43 g var 0:12, 0:51 g var 0:12, 0:55 g var 0:12"},
		{"def f(y) = let x = y in fun(y) => x(y, let y = x in y);", "0:4 f def 0:4, 0:6 y param 0:6, 0:15 x let 0:15, 0:19 y var 0:6, 0:28 y param 0:28, 0:34 x var 0:15, 0:36 y var 0:28, 0:43 y let 0:43, 0:47 x var 0:15, 0:52 y var 0:43"},
	})
}

func TestN3ModulesAndItems(t *testing.T) {
	check(t, [][]string{
		{"use b.x; pub def y(x) = x;", "use a.y as z; pub use b.z as x;", "0:4 b module 1:-1, 0:6 x item 0:17, 0:17 y def 0:17, 0:19 x param 0:19, 0:24 x var 0:19, 1:4 a module 0:-1, 1:6 y item 0:17, 1:11 z alias 0:17, 1:22 b module 1:-1, 1:24 z item 0:17, 1:29 x alias 0:17"},
		{"use b.x; pub def y(x) = x;", "use a.y as z; use b.z as x;", "0:4 b module 1:-1, 0:6 x item -1:-1 ErrHidden, 0:17 y def 0:17, 0:19 x param 0:19, 0:24 x var 0:19, 1:4 a module 0:-1, 1:6 y item 0:17, 1:11 z alias 0:17, 1:18 b module 1:-1, 1:20 z item 0:17, 1:25 x alias 0:17"},
		{"use c.x;", "", "0:4 c module -1:-1 ErrName, 0:6 x item -1:-1 ErrName"},
		{"use b.x;", "", "0:4 b module 1:-1, 0:6 x item -1:-1 ErrName"},
		{"use b.x;", "def x = 1;", "0:4 b module 1:-1, 0:6 x item -1:-1 ErrHidden, 1:4 x def 1:4"},
		{"use b.x;", "def x = 1; pub def x = 2;", "0:4 b module 1:-1, 0:6 x item -1:-1 ErrHidden, 1:4 x def 1:4, 1:19 x def 1:19 ErrTwice"},
		{"use b.x;", "pub def x = 1; def x = 2;", "0:4 b module 1:-1, 0:6 x item 1:8, 1:8 x def 1:8, 1:19 x def 1:19 ErrTwice"},
		{"use a.x as y; def x = y;", "0:4 a module 0:-1, 0:6 x item 0:18, 0:11 y alias 0:18, 0:18 x def 0:18, 0:22 y var 0:18"},
		{"def x = 1; use a.x;", "0:4 x def 0:4, 0:15 a module 0:-1, 0:17 x item 0:4 ErrTwice"},
		{"use .x;", "0:5 x item -1:-1 ErrName"},
		{"use . as y; def f = y;", "0:9 y alias -1:-1, 0:16 f def 0:16, 0:20 y var -1:-1"},
		{"use b;", "", "0:4 b module 1:-1"},
		{"use b x;", "pub def x = 1;", "0:4 b module 1:-1, 0:6 x item 1:8, 1:8 x def 1:8"},
		// an NUse is also what shows an item, or hides it
		{"use b.y;", "pub use c.x as y;", "def x = 1;", "0:4 b module 1:-1, 0:6 y item -1:-1 ErrHidden, 1:8 c module 2:-1, 1:10 x item -1:-1 ErrHidden, 1:15 y alias -1:-1, 2:4 x def 2:4"},
		{"use b.x;", "use c.x;", "pub def x = 1;", "0:4 b module 1:-1, 0:6 x item -1:-1 ErrHidden, 1:4 c module 2:-1, 1:6 x item 2:8, 2:8 x def 2:8"},
		{"use b.y;", "pub use b. as y;", "0:4 b module 1:-1, 0:6 y item -1:-1 ErrName, 1:8 b module 1:-1, 1:14 y alias -1:-1"},
		{"use b.x;", "pub use c.x;", "0:4 b module 1:-1, 0:6 x item -1:-1 ErrName, 1:8 c module -1:-1 ErrName, 1:10 x item -1:-1 ErrName"},
		// a parameter of a name makes no difference to what is used
		{"def f(b) = b; use b.f as b;", "pub def f(a) = a;", "0:4 f def 0:4, 0:6 b param 0:6, 0:11 b var 0:6, 0:18 b module 1:-1, 0:20 f item 1:8, 0:25 b alias 1:8, 1:8 f def 1:8, 1:10 a param 1:10, 1:15 a var 1:10"},
	})
}

func TestN3Rings(t *testing.T) {
	check(t, [][]string{
		{"use a.x;", "0:4 a module 0:-1, 0:6 x item -1:-1 ErrRing"},
		{"use a.x as x; def y = x;", "0:4 a module 0:-1, 0:6 x item -1:-1 ErrRing, 0:11 x alias -1:-1, 0:18 y def 0:18, 0:22 x var -1:-1"},
		{"use a.x; use a.x;", "0:4 a module 0:-1, 0:6 x item -1:-1 ErrRing, 0:13 a module 0:-1, 0:15 x item -1:-1 ErrRing"},
		{"use a.y as x; use a.x as y;", "0:4 a module 0:-1, 0:6 y item -1:-1 ErrRing, 0:11 x alias -1:-1, 0:18 a module 0:-1, 0:20 x item -1:-1 ErrRing, 0:25 y alias -1:-1"},
		// who comes to a ring from outside is told of it as well
		{"use b.x as z; def f = z;", "pub use c.x;", "pub use b.x;", "0:4 b module 1:-1, 0:6 x item -1:-1 ErrRing, 0:11 z alias -1:-1, 0:18 f def 0:18, 0:22 z var -1:-1, 1:8 c module 2:-1, 1:10 x item -1:-1 ErrRing, 2:8 b module 1:-1, 2:10 x item -1:-1 ErrRing"},
		// .. unless it is hidden from it
		{"use b.x;", "use c.x;", "pub use b.x;", "0:4 b module 1:-1, 0:6 x item -1:-1 ErrHidden, 1:4 c module 2:-1, 1:6 x item -1:-1 ErrHidden, 2:8 b module 1:-1, 2:10 x item -1:-1 ErrHidden"},
		// two ways to one item are no ring
		{"use b.x as y; use b.x as z;", "pub use c.x;", "pub def x = 1;", "0:4 b module 1:-1, 0:6 x item 2:8, 0:11 y alias 2:8, 0:18 b module 1:-1, 0:20 x item 2:8, 0:25 z alias 2:8, 1:8 c module 2:-1, 1:10 x item 2:8, 2:8 x def 2:8"},
	})
}

func TestN3WrongAndTwice(t *testing.T) {
	check(t, [][]string{
		// where more is wrong than that it is twice, that is told
		{"def x = 1; use b.x;", "", "0:4 x def 0:4, 0:15 b module 1:-1, 0:17 x item -1:-1 ErrName"},
		{"def x = 1; use b.x;", "def x = 1;", "0:4 x def 0:4, 0:15 b module 1:-1, 0:17 x item -1:-1 ErrHidden, 1:4 x def 1:4"},
		// of an alias it is always told
		{"def y = 1; use b.x as y; use b. as y; def z = y;", "", "0:4 y def 0:4, 0:15 b module 1:-1, 0:17 x item -1:-1 ErrName, 0:22 y alias -1:-1 ErrTwice, 0:29 b module 1:-1, 0:35 y alias -1:-1 ErrTwice, 0:42 z def 0:42, 0:46 y var 0:4"},
		// the item's twice is not told to who uses it: it has no name
		{"use b.x as y;", "pub def x = 1; pub use c.x;", "pub def x = 2;", "0:4 b module 1:-1, 0:6 x item 1:8, 0:11 y alias 1:8, 1:8 x def 1:8, 1:23 c module 2:-1, 1:25 x item 2:8 ErrTwice, 2:8 x def 2:8"},
		// what is wrong with what is used is not told of who stands for it
		{"use b.x; def y = x;", "", "0:4 b module 1:-1, 0:6 x item -1:-1 ErrName, 0:13 y def 0:13, 0:17 x var -1:-1"},
		{"use b.x; def y(x) = x;", "", "0:4 b module 1:-1, 0:6 x item -1:-1 ErrName, 0:13 y def 0:13, 0:15 x param 0:15, 0:20 x var 0:15"},
	})
}

// Places are bytes, whatever stands ahead.
func TestN3Places(t *testing.T) {
	check(t, [][]string{
		{"é; -- é\n{- def {- é -} -} pub def é1(λ) = \"é\" ++ λ; ) def g = é1;", "0:37 é1 def 0:37, 0:41 λ param 0:41, 0:55 λ var 0:41, 0:65 g def 0:65, 0:69 é1 var 0:37"},
	})
	all := []api.File{{Name: "é", Text: "use b.x;"}, {Name: "b", Text: "use é.y; pub def x = 1;"}}
	want := "0:4 b module 1:-1, 0:6 x item 1:18, 1:4 é module 0:-1, 1:7 y item -1:-1 ErrName, 1:18 x def 1:18"
	if got := told(t, all); got != want {
		t.Errorf("got  %s\nwant %s", got, want)
	}
}

func TestP2FilesStayAndNamesAreFresh(t *testing.T) {
	all := files("use b.x; def f(x, y) = x;", "pub def x = y;")
	kept := slices.Clone(all)
	first, _ := Resolve(all)
	want := slices.Clone(first)
	for i := range first {
		first[i] = api.Use{File: 9}
	}
	second, _ := Resolve(all)
	if !slices.Equal(second, want) || !slices.Equal(all, kept) {
		t.Errorf("got %v, want %v; files %v", second, want, all)
	}
	var group sync.WaitGroup
	for range 8 {
		group.Go(func() {
			if got, _ := Resolve(all); !slices.Equal(got, want) {
				t.Errorf("got %v, want %v", got, want)
			}
		})
	}
	group.Wait()
}
