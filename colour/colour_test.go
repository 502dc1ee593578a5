package colour

import (
	"errors"
	"fmt"
	"math"
	"slices"
	"strings"
	"sync"
	"testing"

	"amanuensis/api"
	"amanuensis/lex"
)

// filesOf gives files of texts; they are called a, b, c ..
func filesOf(texts ...string) []api.File {
	var all []api.File
	for i, t := range texts {
		all = append(all, api.File{Name: string(rune('a' + i)), Text: t})
	}
	return all
}

// errorName gives that of an error; nothing but the program's may be one.
func errorName(t *testing.T, err error) string {
	t.Helper()
	if err == nil {
		return "OK"
	}
	var e api.Errno
	if !errors.As(err, &e) || e == api.OK {
		t.Fatalf("%v", err)
	}
	return e.Error()
}

// colours gives those of the first one of some texts.
func colours(t *testing.T, texts ...string) []api.Colour {
	t.Helper()
	all, err := Colours(filesOf(texts...), 0)
	if err != nil {
		t.Fatalf("%q: %v", texts, err)
	}
	return all
}

// told fails if the colours of a text are not those that are wanted: Line, Unit, Len, Kind of each.
func told(t *testing.T, text string, want ...string) {
	t.Helper()
	var got []string
	for _, c := range colours(t, text) {
		got = append(got, fmt.Sprint(c.Line, c.Unit, c.Len, c.Kind))
	}
	if !slices.Equal(got, want) {
		t.Errorf("%q:\ngot  %q\nwant %q", text, got, want)
	}
}

// painted fails if the tokens of the first one of some texts are not those that are wanted, each with its kind, with blanks between: `def:1 f:7`.
// Spaces in a token are left out.
func painted(t *testing.T, want string, texts ...string) {
	t.Helper()
	all := colours(t, texts...)
	var got []string
	for _, k := range lex.Tokens(texts[0]) {
		if k.Kind != api.TSpace && len(got) < len(all) {
			text := strings.Join(strings.Fields(texts[0][k.At:k.At+k.Len]), "")
			got = append(got, fmt.Sprint(text, ":", all[len(got)].Kind))
		}
	}
	if len(got) != len(all) || strings.Join(got, " ") != want {
		t.Errorf("%q: %d colours\ngot  %s\nwant %s", texts, len(all), strings.Join(got, " "), want)
	}
}

// names is as painted, of the tokens that are names alone.
func names(t *testing.T, want string, texts ...string) {
	t.Helper()
	all := colours(t, texts...)
	var got []string
	i := 0
	for _, k := range lex.Tokens(texts[0]) {
		if k.Kind == api.TName {
			got = append(got, fmt.Sprint(texts[0][k.At:k.At+k.Len], ":", all[i].Kind))
		}
		if k.Kind != api.TSpace {
			i++
		}
	}
	if strings.Join(got, " ") != want {
		t.Errorf("%q:\ngot  %s\nwant %s", texts, strings.Join(got, " "), want)
	}
}

// refused fails if Colours does not tell an error, and nothing beside it.
func refused(t *testing.T, files []api.File, file int, want string) {
	t.Helper()
	if got, err := Colours(files, file); len(got) > 0 || errorName(t, err) != want {
		t.Errorf("%d files, %d: %v, %v, want %s", len(files), file, got, err, want)
	}
}

func TestG1AnOrdinaryFile(t *testing.T) {
	told(t, "def f(x) = x + 1; -- so\n\n  pub def k = f(\"2\");",
		"0 0 3 1", "0 4 1 7", "0 1 1 5", "0 1 1 8", "0 1 1 5",
		"0 2 1 5", "0 2 1 8", "0 2 1 5", "0 2 1 2", "0 1 1 5",
		"0 2 5 4",
		"2 2 3 1", "0 4 3 1", "0 4 1 7", "0 2 1 5", "0 2 1 7",
		"0 1 1 5", "0 1 3 3", "0 3 1 5", "0 1 1 5")
}

func TestG1NoSuchFile(t *testing.T) {
	for _, file := range []int{0, 1, -1, math.MaxInt, math.MinInt} {
		refused(t, nil, file, "ErrRange")
		refused(t, []api.File{}, file, "ErrRange")
	}
	two := filesOf("def f = 1;", "")
	for _, file := range []int{2, 3, -1, -2, api.MaxFiles, math.MaxInt, math.MinInt} {
		refused(t, two, file, "ErrRange")
	}
}

func TestG1FilesWithFaults(t *testing.T) {
	fine := api.File{Name: "a", Text: "def f = 1;"}
	long := api.File{Name: "b", Text: strings.Repeat(" ", api.MaxFile+1)}
	nameless := api.File{Name: "def"}
	var many []api.File
	for i := range api.MaxFiles + 1 {
		many = append(many, api.File{Name: "n" + string(rune('a'+i)), Text: fine.Text})
	}
	for _, c := range []struct {
		want  string
		files []api.File
	}{
		{"ErrFull", many},
		{"ErrFull", []api.File{fine, long}},
		{"ErrFull", []api.File{nameless, fine, fine, long}},
		{"ErrName", []api.File{fine, nameless}},
		{"ErrName", []api.File{fine, {}}},
		{"ErrName", []api.File{fine, {Name: strings.Repeat("n", api.MaxWord+1)}}},
		{"ErrName", []api.File{nameless, fine, fine}},
		{"ErrTwice", []api.File{fine, fine}},
		{"ErrTwice", []api.File{fine, fine, nameless}},
	} {
		// also where there is no such file: what Resolve tells comes ahead
		for _, file := range []int{0, 1, -1, len(c.files), math.MaxInt, math.MinInt} {
			refused(t, c.files, file, c.want)
		}
	}
	for _, files := range [][]api.File{many[1:], {fine, {Name: "b", Text: long.Text[1:]}}, {fine, {Name: strings.Repeat("n", api.MaxWord)}}} {
		if got, err := Colours(files, 0); err != nil || len(got) != 5 {
			t.Errorf("%d files: %v, %v", len(files), got, err)
		}
		refused(t, files, len(files), "ErrRange")
	}
}

// What is asked for is this file, whatever stands in the others.
func TestG1EachFile(t *testing.T) {
	files := filesOf("def f = 1;", "", "\n 7", "-- so")
	for file, want := range []string{"[{0 0 3 1} {0 4 1 7} {0 2 1 5} {0 2 1 2} {0 1 1 5}]", "[]", "[{1 1 1 2}]", "[{0 0 5 4}]"} {
		if got, err := Colours(files, file); err != nil || fmt.Sprint(got) != want {
			t.Errorf("%d: %v, %v", file, got, err)
		}
	}
}

func TestG1NothingInIt(t *testing.T) {
	for _, text := range []string{"", " ", "\n", "\t", "\r", "\r\n", " \n\n\t\r ", strings.Repeat("\n", api.MaxFile)} {
		told(t, text)
	}
}

func TestG1TheFirstToken(t *testing.T) {
	for text, want := range map[string]string{
		"7":          "0 0 1 2",
		"   7":       "0 3 1 2",
		"\t7 ":       "0 1 1 2",
		"\r7\r":      "0 1 1 2", // no byte 10, so no other line
		"\n7":        "1 0 1 2",
		"\r\n7":      "1 0 1 2",
		" \n \n  7":  "2 2 1 2",
		"\n\n\n7\n":  "3 0 1 2",
		"\n\r7":      "1 1 1 2",
		"--":         "0 0 2 4",
		"é":          "0 0 1 13",
		"\U0001F600": "0 0 2 6",
		"\xff":       "0 0 1 6",
	} {
		told(t, text, want)
	}
}

func TestG1TokensInOneLine(t *testing.T) {
	told(t, "12,,3 \t 4", "0 0 2 2", "0 2 1 5", "0 1 1 5", "0 1 1 2", "0 4 1 2")
	told(t, "  ( =>==", "0 2 1 5", "0 2 2 5", "0 2 2 5")
	told(t, "1\r2", "0 0 1 2", "0 2 1 2")
}

func TestG1TokensInOtherLines(t *testing.T) {
	told(t, "123\n4", "0 0 3 2", "1 0 1 2")
	told(t, "1\n  2", "0 0 1 2", "1 2 1 2")
	told(t, "    1\n  2 3", "0 4 1 2", "1 2 1 2", "0 2 1 2")
	told(t, "1\r\n2\n\r3", "0 0 1 2", "1 0 1 2", "1 1 1 2")
	told(t, "1 \n \n\n\t2", "0 0 1 2", "3 1 1 2")
	told(t, "\n1"+strings.Repeat("\n", 1000)+" 2;", "1 0 1 2", "1000 1 1 2", "0 1 1 5")
}

// What stands behind the end of a remark in the same line is told from that line's beginning: the remark begins in another one.
func TestG1RemarksOfSeveralLines(t *testing.T) {
	told(t, "{-\n-}1", "0 0 5 4", "1 2 1 2")
	told(t, "1 {- a\n\nb -} 2 3", "0 0 1 2", "0 2 10 4", "2 5 1 2", "0 2 1 2")
	told(t, "  {-\n{-\n-}\n-}{-\n-}\n 1", "0 2 11 4", "3 2 5 4", "2 1 1 2")
	told(t, "{- \U0001F600\né -}1", "0 0 10 4", "1 4 1 2")
	told(t, "{-\r\n\xff-};", "0 0 7 4", "1 3 1 5")
	told(t, "-- a\n-- b\n1", "0 0 4 4", "1 0 4 4", "1 0 1 2")
	told(t, "1 -- a\r\n2", "0 0 1 2", "0 2 5 4", "1 0 1 2")
}

// A remark that is not closed goes on to the end; a text ends with its line.
func TestG1WhatIsNotClosed(t *testing.T) {
	told(t, "1\n {- a\n\nb", "0 0 1 2", "1 1 7 6")
	told(t, "{-\n", "0 0 3 6")
	told(t, "\"ab\n1\"", "0 0 3 6", "1 0 1 2", "0 1 1 6")
	told(t, "\"a\\\n\" 1", "0 0 3 6", "1 0 3 6")
}

// Units are counted, not bytes and not characters.
func TestG1Characters(t *testing.T) {
	told(t, "\"é\" 1", "0 0 3 3", "0 4 1 2")
	told(t, "\"\u2028\uFFFF\" 1", "0 0 4 3", "0 5 1 2")
	told(t, "\"\U00010000\" 1", "0 0 4 3", "0 5 1 2")
	told(t, "\"\U0010FFFF\U0001F600\"1", "0 0 6 3", "0 6 1 2")
	told(t, "{-\U0001F600-}\"é\n1", "0 0 6 4", "0 6 2 6", "1 0 1 2")
	told(t, "\U0001F600\U0001F600\n \U0001F600 1", "0 0 2 6", "0 2 2 6", "1 1 2 6", "0 3 1 2")
	told(t, "éλЖ", "0 0 3 13")
	told(t, "\u00a0×", "0 0 1 6", "0 1 1 6")
	told(t, "\uFFFD1", "0 0 1 6", "0 1 1 2")
}

// Each byte that is no character counts as one.
func TestG1BytesThatAreNoCharacters(t *testing.T) {
	told(t, "\"\xff\xc3\" 1", "0 0 4 3", "0 5 1 2")
	told(t, "\xf0\x9f\x981", "0 0 1 6", "0 1 1 6", "0 1 1 6", "0 1 1 2")
	told(t, "\"\xed\xa0\x80\"1", "0 0 5 3", "0 5 1 2")
	told(t, "\"\xf4\x90\x80\x80\"1", "0 0 6 3", "0 6 1 2")
	told(t, "-- \xc3\n\xa9", "0 0 4 4", "1 0 1 6")
	told(t, "\x00\x00", "0 0 1 6", "0 1 1 6")
}

func TestG1KindsOfTokens(t *testing.T) {
	painted(t, "use:1 as:1 pub:1 def:1 let:1 in:1 if:1 then:1 else:1 fun:1 true:1 false:1", "use as pub def let in if then else fun true false")
	painted(t, "0:2 007:2 123456789012345678:2 1234567890123456789:6", "0 007 123456789012345678 1234567890123456789")
	painted(t, `"":3 "a":3 "\u{e9}\n\t\"\\":3 "\q":6 "\u{110000}":6 "a:6`, `"" "a" "\u{e9}\n\t\"\\" "\q" "\u{110000}" "a`)
	painted(t, "{--}:4 {-{-a-}-}:4 --a:4 --{-:4 {-{--}:6", "{--} {- {- a -}-} -- a\n--{-\n{-{--}")
	painted(t, "=>:5 ==:5 ++:5 (:5 ):5 [:5 ]:5 ,:5 ;:5 =:5 <:5 +:5 -:5 *:5 .:5 ?:5", "=> == ++ ()[],; = < + - * . ?")
	painted(t, "@:6 {:6 }:6 >:6 \x00:6 \xff:6 é:13 ×:6", "@ { } > \x00 \xff é ×")
}

// Kinds of tokens are the same wherever they stand.
func TestG1KindsOfTokensInItems(t *testing.T) {
	painted(t, "pub:1 def:1 f:7 (:5 ):5 =:5 [:5 1:2 ,:5 \"a\":3 ,:5 true:1 ,:5 ?:5 ]:5 --so:4 ;:5", "pub def f() = [1, \"a\", true, ?] -- so\n;")
	painted(t, "pub:1 use:1 a:10 .:5 f:11 as:1 g:11 {-so-}:4 ;:5 def:1 f:7 =:5 1:2 ;:5", "pub use a.f as g {- so -}; def f = 1;")
	painted(t, "def:1 f:7 =:5 1:2 @:6 ;:5", "def f = 1 @;")
}

func TestG1Defs(t *testing.T) {
	names(t, "f:7 g:7 f:7 f:7", "def f = 1; def g = f(f);")
	names(t, "f:7 f:7", "def f = f;")
	names(t, "f:7 g:7 g:7", "pub def f = g; def g = 1;")
	// one that is twice is wrong; the name stands for the first one
	names(t, "f:7 f:12 f:12 g:7 f:7", "def f = 1; def f = 2; pub def f = 3; def g = f;")
	names(t, "b:10 x:11 f:11 f:12 g:7 f:7", "use b.x as f; def f = 1; def g = f;", "pub def x = 1;")
}

func TestG1Params(t *testing.T) {
	names(t, "f:7 x:8 y:8 x:8 y:8", "def f(x, y) = x + y;")
	names(t, "f:7 x:8 x:8", "def f = fun(x) => x;")
	names(t, "f:7 f:8 f:8", "def f(f) = f;")
	// of two the first one counts
	names(t, "f:7 x:8 x:12 y:8 x:12 x:8", "def f(x, x, y, x) = x;")
	names(t, "f:7 x:8 x:8 x:12 x:8", "def f(x) = fun(x, x) => x;")
	names(t, "f:7 x:8 x:12", "def f = [fun(x) => 1, x];")
	names(t, "f:7 x:8", "def f(x")
}

func TestG1Lets(t *testing.T) {
	names(t, "f:7 x:9 x:9", "def f = let x = 1 in x;")
	names(t, "f:7 x:9 x:12 x:9", "def f = let x = x in x;")
	names(t, "f:7 x:8 x:9 x:8 x:9", "def f(x) = let x = x in x;")
	names(t, "f:7 x:9 x:8 x:8 x:9", "def f = let x = fun(x) => x in x;")
	names(t, "f:7 x:9 x:9 x:9 x:9", "def f = let x = 1 in let x = x in x;")
	names(t, "f:7 f:9 f:7 f:9", "def f = let f = f in f;")
}

func TestG1Modules(t *testing.T) {
	names(t, "b:10 x:11", "use b.x;", "pub def x = 1;")
	names(t, "a:10 x:12", "use a.x;")
	names(t, "c:12 x:12", "use c.x;", "pub def x = 1;")
	// whatever is wrong with the item
	names(t, "b:10 y:12", "use b.y;", "pub def x = 1;")
	names(t, "b:10", "use b.;", "pub def x = 1;")
	names(t, "b:10", "use b", "pub def x = 1;")
	names(t, "x:12", "use .x;", "pub def x = 1;")
}

func TestG1Items(t *testing.T) {
	names(t, "b:10 x:11 f:7 x:7", "use b.x; def f = x;", "pub def x = 1;")
	// not shown, in a ring, not there, through others
	names(t, "b:10 x:12", "use b.x;", "def x = 1;")
	names(t, "b:10 x:12", "pub use b.x;", "pub use a.x;")
	names(t, "a:10 x:12", "pub use a.x;")
	names(t, "b:10 x:12", "use b.x;", "pub use c.x;")
	names(t, "b:10 x:11", "use b.x;", "pub use c.y as x;", "pub def y = 1;")
	names(t, "b:10 x:12", "use b.x;", "pub use c.y as x;", "def y = 1;")
	// one that is twice is wrong, though it stands for something
	names(t, "b:10 x:11 b:10 x:12 f:7 x:7", "use b.x; use b.x; def f = x;", "pub def x = 1;")
	names(t, "x:7 b:10 x:12", "def x = 1; use b.x;", "pub def x = 1;")
	// one of this file need not be shown
	names(t, "a:10 x:11 y:11 x:7 y:7", "use a.x as y; def x = y;")
}

func TestG1Aliases(t *testing.T) {
	names(t, "b:10 x:11 y:11 f:7 y:7", "use b.x as y; def f = y;", "pub def x = 1;")
	// one that stands for nothing, though its Err is OK
	names(t, "b:10 x:12 y:12", "use b.x as y;", "def x = 1;")
	names(t, "b:10 x:12 y:12", "use b.x as y;", "")
	names(t, "c:12 x:12 y:12", "use c.x as y;", "pub def x = 1;")
	names(t, "b:10 y:12", "use b. as y;", "pub def x = 1;")
	names(t, "a:10 x:12 x:12", "use a.x as x;")
	// one that is twice is wrong alone
	names(t, "b:10 x:11 y:11 b:10 x:11 y:12", "use b.x as y; use b.x as y;", "pub def x = 1;")
	names(t, "y:7 b:10 x:11 y:12 f:7 y:7", "def y = 1; use b.x as y; def f = y;", "pub def x = 1;")
}

// A UVar is what it stands for, also in another file; and wrong, if it stands for nothing, though its Err be OK.
func TestG1Variables(t *testing.T) {
	names(t, "f:7 x:12", "def f = x;")
	names(t, "b:10 x:12 f:7 x:12", "use b.x; def f = x;", "def x = 1;")
	names(t, "b:10 x:12 y:12 f:7 y:12 x:12", "use b.x as y; def f = [y, x];", "def x = 1;")
	names(t, "b:10 x:12 f:7 x:12", "use b.x; def f = x;", "pub use a.x;")
	names(t, "b:10 x:11 f:7 x:7", "use b.x; def f = x;", "-- so\n\npub use c.y as x;", "def z(y) = let y = 1 in y; pub def y = 1;")
	names(t, "b:10 x:11 f:7 x:8 x:8", "use b.x; def f(x) = x;", "pub def x = 1;")
	names(t, "b:10 f:7 b:12", "use b.; def f = b;", "")
}

// What a name stands for is named in another file; in this one a parameter begins at that place.
func TestG1VariablesOfOtherFilesByTheirPlaces(t *testing.T) {
	names(t, "fg:7 v:8 v:8 b:10 x:11 h:7 x:7", "def fg (v)=v; use b.x; def h = x;", "pub def x = 1;")
	names(t, "x:7", "pub def x = 1;", "def fg (v)=v;")
}

// A name in no NUse and no NDef, whatever it is elsewhere.
func TestG1NamesInWhatIsWrong(t *testing.T) {
	names(t, "x:13", "x")
	names(t, "x:13 f:7 x:13 f:13", "x def f = 1; x(f);")
	names(t, "f:7 f:13 g:7 f:7", "def f = 1; = f; def g = f;")
	names(t, "f:7 x:8 x:8 x:13 f:13", "def f(x) = x x + f;")
	names(t, "f:7 x:9 x:9 x:13 x:13", "def f = let x = 1 in x; let x = 2 in x;")
	names(t, "b:10 x:11 y:13 z:13", "use b.x y as z;", "pub def x = 1;")
	// also if they stand too deep to be read
	deep := strings.Repeat("(", api.MaxNest)
	names(t, "f:7 f:7", "def f = "+deep+"f;")
	names(t, "f:7 f:13", "def f = "+deep+"(f;")
}

// What is missing is no token.
func TestG1WhatIsMissing(t *testing.T) {
	painted(t, "use:1 def:1 pub:1 def:1 (:5 let:1 in:1", "use def pub def (let in")
	painted(t, "def:1 f:7 (:5 x:8 ,:5 =:5 x:8 +:5 ;:5", "def f(x, = x + ;")
}

// No text is written into, none of the lists shares memory.
func TestG1ListsAreTheCallers(t *testing.T) {
	files := filesOf("use b.x; def f = x;", "pub def x = 1;", "behind")
	kept := slices.Clone(files)
	first, _ := Colours(files[:2], 0)
	want := slices.Clone(first)
	second, _ := Colours(files[:2], 0)
	clear(first[:cap(first)])
	third, _ := Colours(files[:2], 0)
	if !slices.Equal(second, want) || !slices.Equal(third, want) || !slices.Equal(files, kept) {
		t.Errorf("%v\n%v\n%v\n%q", want, second, third, files)
	}
}

// Calls do not hang on each other.
func TestG1CallsAtTheSameTime(t *testing.T) {
	var all sync.WaitGroup
	for range 8 {
		all.Go(func() {
			for range 50 {
				told(t, "1\n \"é\"", "0 0 1 2", "1 1 3 3")
				refused(t, filesOf("def f = 1;"), 1, "ErrRange")
			}
		})
	}
	all.Wait()
}
