package wire

import (
	"fmt"
	"math"
	"slices"
	"strings"
	"sync"
	"testing"

	"amanuensis/api"
)

// printed fails if Print of a value does not give this text, or Parse of that not the value again.
func printed(t *testing.T, j api.Json, want string) {
	t.Helper()
	got, err := Print(j)
	if err != nil || got != want {
		t.Errorf("%+v:\ngot  %q %v\nwant %q", j, got, err, want)
	}
	read(t, got, j)
}

// refused fails if Print of a value does not tell this error, and nothing beside it.
func refused(t *testing.T, j api.Json, name string) {
	t.Helper()
	got, err := Print(j)
	if errorName(t, err) != name || got != "" {
		t.Errorf("%+v: got %.80q %v, want %s", j, got, err, name)
	}
}

// nested gives a value that stands in so many lists.
func nested(levels int, j api.Json) api.Json {
	for range levels {
		j = list(j)
	}
	return j
}

func TestJ3EachKind(t *testing.T) {
	printed(t, null(), "null")
	printed(t, yes(), "true")
	printed(t, no(), "false")
	printed(t, num(0), "0")
	printed(t, num(-42), "-42")
	printed(t, text("a b"), `"a b"`)
	printed(t, list(), "[]")
	printed(t, joined(), "{}")
	printed(t, list(num(1)), "[1]")
	printed(t, list(num(1), null(), list(), text("")), `[1,null,[],""]`)
	printed(t, pair("a", joined()), `{"a":{}}`)
	printed(t, joined(pair("b", num(-1)), pair("", yes()), pair("a", list(no()))), `{"b":-1,"":true,"a":[false]}`)
}

func TestJ3Numbers(t *testing.T) {
	for _, n := range []int{1, -1, 9, 10, -10, 123456789, 99999999999999999, 100000000000000000, 999999999999999999, -999999999999999999} {
		printed(t, num(n), fmt.Sprint(n))
		printed(t, pair("n", num(n)), fmt.Sprintf(`{"n":%d}`, n))
	}
	for _, n := range []int{1000000000000000000, -1000000000000000000, 1000000000000000001, math.MaxInt, math.MinInt, math.MinInt + 1} {
		refused(t, num(n), "ErrSyntax")
		refused(t, list(num(1), num(n)), "ErrSyntax")
	}
}

func TestJ3EachByte(t *testing.T) {
	for c := range 256 {
		b := string([]byte{byte(c)})
		want, ok := map[int]string{'"': `\"`, '\\': `\\`, '\n': `\n`, '\r': `\r`, '\t': `\t`}[c]
		switch {
		case ok:
		case c < 32:
			want = fmt.Sprintf(`\u%04x`, c)
		default:
			want = b
		}
		printed(t, text(b), `"`+want+`"`)
		printed(t, text("a"+b+b+"é"), `"a`+want+want+`é"`)
		printed(t, pair(b, text(b)), `{"`+want+`":"`+want+`"}`)
	}
}

func TestJ3Texts(t *testing.T) {
	printed(t, text("/\x7f\u0080\u2028\U0001F600"), "\"/\x7f\u0080\u2028\U0001F600\"")
	printed(t, text("\x00\x08\x0b\x0c\x1f\x1a"), `"\u0000\u0008\u000b\u000c\u001f\u001a"`)
	printed(t, text(`\u0041\n`), `"\\u0041\\n"`)
	printed(t, text("\xff\xed\xa0\x80\xf4\x90\x80\x80\xc3"), "\"\xff\xed\xa0\x80\xf4\x90\x80\x80\xc3\"")
	printed(t, text("\n\n\"\"\\\\"), `"\n\n\"\"\\\\"`)
}

// spoilt gives values that have a field that their Kind has not.
func spoilt() []api.Json {
	var all []api.Json
	for _, j := range []api.Json{null(), yes(), no(), num(0), num(5), text(""), text("a"), list(), list(null()), joined(), pair("a", null())} {
		k := j
		if k.Num = 1; j.Kind != api.JBool && j.Kind != api.JNum {
			all = append(all, k)
			k.Num = math.MinInt
			all = append(all, k)
		}
		k = j
		if k.Text = "\x00"; j.Kind != api.JText {
			all = append(all, k)
		}
		k = j
		if k.Keys = []string{""}; j.Kind != api.JMap {
			all = append(all, k)
		}
		k = j
		if k.Kids = []api.Json{{}}; j.Kind != api.JMap && j.Kind != api.JList {
			all = append(all, k)
		}
	}
	return all
}

func TestJ3FieldsThatAKindHasNot(t *testing.T) {
	all := spoilt()
	if len(all) != 2*7+9+9+7 {
		t.Fatal(len(all))
	}
	for _, j := range all {
		refused(t, j, "ErrSyntax")
		refused(t, list(null(), j), "ErrSyntax")
		refused(t, pair("a", j), "ErrSyntax")
	}
}

// An empty list is as none.
func TestJ3EmptyFields(t *testing.T) {
	for _, j := range []api.Json{null(), yes(), num(3), text("a"), list(), joined()} {
		want, _ := Print(j)
		j.Keys, j.Kids = []string{}, make([]api.Json, 0, 3)
		printed(t, j, want)
	}
}

func TestJ3OtherKinds(t *testing.T) {
	for _, kind := range []int{-1, 6, 7, 256, 1 << 32, math.MaxInt, math.MinInt} {
		refused(t, api.Json{Kind: kind}, "ErrSyntax")
		refused(t, list(yes(), api.Json{Kind: kind}), "ErrSyntax")
		refused(t, pair("a", api.Json{Kind: kind, Text: "b"}), "ErrSyntax")
	}
}

func TestJ3Bools(t *testing.T) {
	for _, n := range []int{-1, 2, 3, 1 << 32, math.MaxInt, math.MinInt} {
		refused(t, api.Json{Kind: api.JBool, Num: n}, "ErrSyntax")
		refused(t, list(api.Json{Kind: api.JBool, Num: n}), "ErrSyntax")
	}
}

func TestJ3KeysAndKids(t *testing.T) {
	keys, kids := []string{"a", "b", "c"}, []api.Json{num(1), num(2), num(3)}
	for k := range 4 {
		for n := range 4 {
			j := api.Json{Kind: api.JMap, Keys: keys[:k], Kids: kids[:n]}
			if k == n {
				printed(t, j, []string{"{}", `{"a":1}`, `{"a":1,"b":2}`, `{"a":1,"b":2,"c":3}`}[k])
			} else {
				refused(t, j, "ErrSyntax")
				refused(t, list(j), "ErrSyntax")
			}
		}
	}
}

func TestJ3KeysTwice(t *testing.T) {
	a, b, c := pair("a", num(1)), pair("b", num(2)), pair("c", num(3))
	for _, j := range []api.Json{joined(a, a), joined(a, b, a), joined(c, b, a, b), joined(pair("", a), pair("", b)), joined(pair("\xff", a), pair("\xff", b)), joined(a, b, c, c)} {
		refused(t, j, "ErrTwice")
		refused(t, list(null(), j), "ErrTwice")
		refused(t, pair("a", j), "ErrTwice")
	}
	printed(t, list(a, a, pair("a", a)), `[{"a":1},{"a":1},{"a":{"a":1}}]`)
	printed(t, joined(pair("a", num(1)), pair("A", num(1)), pair("\xff", num(1)), pair("\xfe", num(1)), pair("\ufffd", num(1))), "{\"a\":1,\"A\":1,\"\xff\":1,\"\xfe\":1,\"\ufffd\":1}")
}

func TestJ3Deep(t *testing.T) {
	open, end := strings.Repeat("[", api.MaxDeep), strings.Repeat("]", api.MaxDeep)
	printed(t, nested(api.MaxDeep, num(7)), open+"7"+end)
	printed(t, nested(api.MaxDeep, null()), open+"null"+end)
	printed(t, nested(api.MaxDeep-1, list()), open+end)
	printed(t, nested(api.MaxDeep-1, joined()), open[1:]+"{}"+end[1:])
	printed(t, nested(api.MaxDeep-1, list(list().Kids...)), open+end)
	for _, j := range []api.Json{list(), joined(), list(num(1)), pair("a", num(1)), nested(100, null()), nested(100000, null())} {
		refused(t, nested(api.MaxDeep, j), "ErrFull")
		refused(t, nested(api.MaxDeep-1, pair("a", j)), "ErrFull")
		refused(t, nested(api.MaxDeep-1, list(null(), text(""), j)), "ErrFull")
	}
	// beside each other they are not in each other
	deep := nested(api.MaxDeep-1, null())
	if got, err := Print(list(deep, deep, pair("a", deep.Kids[0]))); err != nil || len(got) != 2*(2*api.MaxDeep+2)+4+2*api.MaxDeep+2+4 {
		t.Errorf("%d %v", len(got), err)
	}
}

// A list that stands in itself is too deep.
func TestJ3RingsAreTooDeep(t *testing.T) {
	ring := list(null(), null())
	ring.Kids[1] = ring
	refused(t, ring, "ErrFull")
}

// Of a value its own faults count ahead of its Kids', ErrSyntax ahead of ErrFull; of Kids those of the first one; of a map each key's ahead of its value's.
func TestJ3TheFirstFault(t *testing.T) {
	bad, deep, twice := api.Json{Kind: 9}, nested(api.MaxDeep+1, null()), joined(pair("a", null()), pair("a", null()))
	full := list() // in MaxDeep others
	fullAndBad := api.Json{Kind: api.JList, Num: 1}
	for _, c := range []struct {
		j    api.Json
		want string
	}{
		{list(bad, twice), "ErrSyntax"}, {list(twice, bad), "ErrTwice"}, {list(deep, bad), "ErrFull"}, {list(bad, deep), "ErrSyntax"}, {list(deep, twice), "ErrFull"}, {list(twice, deep), "ErrTwice"},
		{list(null(), list(list(twice)), bad), "ErrTwice"},
		{nested(api.MaxDeep, fullAndBad), "ErrSyntax"}, {nested(api.MaxDeep, full), "ErrFull"},
		{nested(api.MaxDeep, list(bad)), "ErrFull"}, {nested(api.MaxDeep, twice), "ErrFull"}, {nested(api.MaxDeep, api.Json{Kind: api.JMap, Keys: []string{"a"}}), "ErrSyntax"},
		// its own ahead of its Kids'
		{api.Json{Kind: api.JList, Num: 1, Kids: []api.Json{deep}}, "ErrSyntax"}, {api.Json{Kind: api.JList, Text: "a", Kids: []api.Json{twice}}, "ErrSyntax"},
		{api.Json{Kind: api.JMap, Num: 1, Keys: twice.Keys, Kids: twice.Kids}, "ErrSyntax"},
		{api.Json{Kind: api.JMap, Keys: []string{"a", "a", "b"}, Kids: []api.Json{null(), null()}}, "ErrSyntax"}, {api.Json{Kind: api.JMap, Keys: []string{"a", "a"}, Kids: []api.Json{deep, null(), null()}}, "ErrSyntax"},
		// of the k-th the key's ahead of the value's
		{joined(pair("a", null()), pair("a", bad)), "ErrTwice"}, {joined(pair("a", null()), pair("a", deep)), "ErrTwice"},
		{joined(pair("a", bad), pair("a", null())), "ErrSyntax"}, {joined(pair("a", deep), pair("a", null())), "ErrFull"},
		{joined(pair("a", null()), pair("b", bad), pair("a", null())), "ErrSyntax"}, {joined(pair("a", null()), pair("a", null()), pair("b", bad)), "ErrTwice"},
		{joined(pair("a", twice), pair("b", bad)), "ErrTwice"}, {joined(pair("b", bad), pair("a", twice)), "ErrSyntax"},
	} {
		refused(t, c.j, c.want)
	}
}

// Nothing that is handed in is written into, nor what stands behind a list's length.
func TestJ3ListsAreLeftAlone(t *testing.T) {
	keys := []string{"a", "b", "a", "behind"}
	kids := []api.Json{num(1), list(text("\n")), no(), {Kind: 77}}
	j := api.Json{Kind: api.JMap, Keys: keys[:2], Kids: kids[:2]}
	printed(t, j, `{"a":1,"b":["\n"]}`)
	j.Keys, j.Kids = keys[:3], kids[:3]
	refused(t, j, "ErrTwice")
	if !slices.Equal(keys, []string{"a", "b", "a", "behind"}) || !slices.EqualFunc(kids, []api.Json{num(1), list(text("\n")), no(), {Kind: 77}}, same) {
		t.Errorf("%q %+v", keys, kids)
	}
}

// Calls do not hang on each other.
func TestJ3CallsAtTheSameTime(t *testing.T) {
	j := list(num(1), pair("a", text("\x01é")))
	var all sync.WaitGroup
	for range 8 {
		all.Go(func() {
			for range 100 {
				printed(t, j, `[1,{"a":"\u0001é"}]`)
				refused(t, list(j, api.Json{Kind: 8}), "ErrSyntax")
			}
		})
	}
	all.Wait()
}
