package wire

import (
	"errors"
	"fmt"
	"slices"
	"strings"
	"sync"
	"testing"

	"amanuensis/api"
)

// errorName gives that of an error; nothing but the program's may be one.
func errorName(t *testing.T, err error) string {
	t.Helper()
	if err == nil {
		return "OK"
	}
	var e api.Errno
	if !errors.As(err, &e) || e == api.OK {
		t.Fatalf("%v", err)
	}
	return e.Error()
}

func null() api.Json         { return api.Json{} }
func no() api.Json           { return api.Json{Kind: api.JBool} }
func yes() api.Json          { return api.Json{Kind: api.JBool, Num: 1} }
func num(n int) api.Json     { return api.Json{Kind: api.JNum, Num: n} }
func text(s string) api.Json { return api.Json{Kind: api.JText, Text: s} }
func list(kids ...api.Json) api.Json {
	return api.Json{Kind: api.JList, Kids: kids}
}

// pair is a map of one key.
func pair(key string, kid api.Json) api.Json {
	return api.Json{Kind: api.JMap, Keys: []string{key}, Kids: []api.Json{kid}}
}

// joined is a map of the keys of some maps.
func joined(maps ...api.Json) api.Json {
	all := api.Json{Kind: api.JMap}
	for _, m := range maps {
		all.Keys, all.Kids = append(all.Keys, m.Keys...), append(all.Kids, m.Kids...)
	}
	return all
}

// same tells whether two values are; an empty list and nil are.
func same(a, b api.Json) bool {
	return a.Kind == b.Kind && a.Num == b.Num && a.Text == b.Text && slices.Equal(a.Keys, b.Keys) && slices.EqualFunc(a.Kids, b.Kids, same)
}

// empty tells whether nothing is in a value at all.
func empty(j api.Json) bool {
	return j.Kind == 0 && j.Num == 0 && j.Text == "" && len(j.Keys) == 0 && len(j.Kids) == 0
}

// read fails if Parse of a text does not give this value.
func read(t *testing.T, in string, want api.Json) {
	t.Helper()
	got, at, err := Parse(in)
	if err != nil || at != 0 || !same(got, want) {
		t.Errorf("%.80q:\ngot  %+v %d %v\nwant %+v", in, got, at, err, want)
	}
}

// wrong fails if Parse of a text does not tell this fault, and nothing beside it.
func wrong(t *testing.T, in string, at int, name string) {
	t.Helper()
	got, place, err := Parse(in)
	if errorName(t, err) != name || place != at || !empty(got) {
		t.Errorf("%.80q: got %+v %d %v, want %d %s", in, got, place, err, at, name)
	}
}

// marked is as wrong, of ErrSyntax; its place is where `^` stands in the text, which is taken out.
func marked(t *testing.T, ins ...string) {
	t.Helper()
	for _, in := range ins {
		ahead, behind, ok := strings.Cut(in, "^")
		if !ok {
			t.Fatalf("%q has no mark", in)
		}
		wrong(t, ahead+behind, len(ahead), "ErrSyntax")
	}
}

func TestJ1Words(t *testing.T) {
	read(t, "null", null())
	read(t, "true", yes())
	read(t, "false", no())
	read(t, "[null,true,false]", list(null(), yes(), no()))
}

func TestJ1Numbers(t *testing.T) {
	for in, want := range map[string]int{
		"0": 0, "-0": 0, "7": 7, "-7": -7, "10": 10, "-10": -10, "100": 100, "-100": -100, "1234567890": 1234567890,
		"100000000000000000": 100000000000000000, "-100000000000000000": -100000000000000000,
		"999999999999999999": 999999999999999999, "-999999999999999999": -999999999999999999,
	} {
		read(t, in, num(want))
		read(t, " "+in+"\n", num(want))
		read(t, "["+in+"]", list(num(want)))
	}
	for digit := range 10 {
		read(t, fmt.Sprint(digit), num(digit))
		read(t, fmt.Sprint("-", digit), num(-digit))
	}
}

func TestJ1Texts(t *testing.T) {
	read(t, `""`, text(""))
	read(t, `"a b"`, text("a b"))
	read(t, `"[1,{'a':null}]"`, text("[1,{'a':null}]"))
	read(t, `"/"`, text("/"))
	read(t, "\"é\u2022\U0001F600\"", text("é\u2022\U0001F600"))
	read(t, "\"\x7f\u2028\"", text("\x7f\u2028"))
}

// All bytes of 32 and above but two stand for themselves, alone and with others, whether they are characters or not.
func TestJ1EachByte(t *testing.T) {
	for c := 32; c < 256; c++ {
		if c == '"' || c == '\\' {
			continue
		}
		b := string([]byte{byte(c)})
		read(t, `"`+b+`"`, text(b))
		read(t, `"a`+b+b+`b"`, text("a"+b+b+"b"))
		read(t, `{"`+b+`":"`+b+`"}`, pair(b, text(b)))
	}
	for _, s := range []string{"\xc3", "\xe2\x82", "\xf0\x9f\x98", "\xed\xa0\x80", "\xf4\x90\x80\x80", "\xc0\x80", "\xff\xfe"} {
		read(t, `"`+s+`"`, text(s))
	}
}

func TestJ1Escapes(t *testing.T) {
	for in, want := range map[string]string{
		`\"`: "\x22", `\\`: "\x5c", `\/`: "\x2f", `\b`: "\x08", `\f`: "\x0c", `\n`: "\x0a", `\r`: "\x0d", `\t`: "\x09",
	} {
		read(t, `"`+in+`"`, text(want))
		read(t, `"a`+in+in+`b"`, text("a"+want+want+"b"))
	}
	read(t, `"\\n\\"`, text(`\n\`))
	read(t, `"\\\"\\"`, text(`\"\`))
}

// Code points of one to four bytes, and those at the edges.
func TestJ1CodePoints(t *testing.T) {
	for in, want := range map[string]string{
		`\u0000`: "\x00", `\u0001`: "\x01", `\u001f`: "\x1f", `\u0022`: "\"", `\u005c`: "\\", `\u0041`: "A", `\u007f`: "\x7f",
		`\u0080`: "\xc2\x80", `\u00e9`: "\xc3\xa9", `\u07ff`: "\xdf\xbf",
		`\u0800`: "\xe0\xa0\x80", `\u2022`: "\xe2\x80\xa2", `\ud7ff`: "\xed\x9f\xbf", `\ue000`: "\xee\x80\x80", `\ufffd`: "\xef\xbf\xbd", `\uffff`: "\xef\xbf\xbf",
		`\ud800\udc00`: "\xf0\x90\x80\x80", `\ud83d\ude00`: "\xf0\x9f\x98\x80", `\ud800\udfff`: "\xf0\x90\x8f\xbf", `\udbff\udc00`: "\xf4\x8f\xb0\x80", `\udbff\udfff`: "\xf4\x8f\xbf\xbf",
	} {
		read(t, `"`+in+`"`, text(want))
		read(t, `"0`+in+in+`0"`, text("0"+want+want+"0"))
		read(t, `"`+strings.ReplaceAll(strings.ToUpper(in), `\U`, `\u`)+`"`, text(want))
	}
	read(t, `"\uD83d\uDe00\u00E9"`, text("\U0001F600é"))
}

// All that four digits can be: a character by itself, or one with the other half.
func TestJ1EachUnit(t *testing.T) {
	for n := range 0x10000 {
		in := fmt.Sprintf(`"\u%04x"`, n)
		switch {
		case n < 0xD800 || n > 0xDFFF:
			read(t, in, text(string(rune(n))))
		case n < 0xDC00:
			wrong(t, in, 1, "ErrSyntax")
			read(t, in[:7]+`\udc01"`, text(string(rune(0x10001+(n-0xD800)*0x400))))
		default:
			wrong(t, in, 1, "ErrSyntax")
			read(t, `"\ud801`+in[1:], text(string(rune(0x10400+n-0xDC00))))
		}
	}
}

// What halves come to is one code point's bytes; bytes that look like halves stay.
func TestJ1HalvesAreOneCodePoint(t *testing.T) {
	read(t, `"\ud83d\ude00\ud83d\ude00"`, text("\U0001F600\U0001F600"))
	read(t, `"\u0041\ud83d\ude00\u0041"`, text("A\U0001F600A"))
	read(t, "\"\xed\xa0\xbd\xed\xb8\x80\"", text("\xed\xa0\xbd\xed\xb8\x80"))
}

func TestJ1Lists(t *testing.T) {
	read(t, "[]", list())
	read(t, "[0]", list(num(0)))
	read(t, "[[]]", list(list()))
	read(t, "[[],[]]", list(list(), list()))
	read(t, "[1,-2,[3,[null]],4]", list(num(1), num(-2), list(num(3), list(null())), num(4)))
	read(t, `["a",{"b":[]},true]`, list(text("a"), pair("b", list()), yes()))
}

func TestJ1Maps(t *testing.T) {
	read(t, "{}", joined())
	read(t, `{"":null}`, pair("", null()))
	read(t, `{"a":"b"}`, pair("a", text("b")))
	read(t, `{"b":1,"a":2,"":3}`, joined(pair("b", num(1)), pair("a", num(2)), pair("", num(3))))
	read(t, `{"a":{"a":{"a":[]}}}`, pair("a", pair("a", pair("a", list()))))
	read(t, `{"\u0061\n":0}`, pair("a\n", num(0)))
}

// Keys are the same by their bytes alone, and in one map alone.
func TestJ1KeysThatAreOthers(t *testing.T) {
	read(t, `{"a":1,"A":2,"a ":3,"\u00e1":4,"aa":5}`, joined(pair("a", num(1)), pair("A", num(2)), pair("a ", num(3)), pair("á", num(4)), pair("aa", num(5))))
	read(t, `[{"a":1},{"a":2}]`, list(pair("a", num(1)), pair("a", num(2))))
	read(t, `{"a":{"a":1,"b":2},"b":{"a":3}}`, joined(pair("a", joined(pair("a", num(1)), pair("b", num(2)))), pair("b", pair("a", num(3)))))
	read(t, `{"a":"a","b":"a"}`, joined(pair("a", text("a")), pair("b", text("a"))))
	read(t, "{\"\xff\":1,\"\xfe\":2,\"\\ufffd\":3}", joined(pair("\xff", num(1)), pair("\xfe", num(2)), pair("\ufffd", num(3))))
}

func TestJ1Blanks(t *testing.T) {
	for _, b := range []string{"\t", "\n", "\r", " ", " \r\n\t", strings.Repeat(" ", 1000)} {
		for _, word := range []string{"null", "1", `"a"`} {
			want, _, _ := Parse(word)
			read(t, b+word+b, want)
		}
		read(t, b+"["+b+"]"+b, list())
		read(t, b+"{"+b+"}"+b, joined())
		read(t, b+"["+b+"1"+b+","+b+"true"+b+","+b+"[]"+b+"]"+b, list(num(1), yes(), list()))
		read(t, b+"{"+b+`"a"`+b+":"+b+"1"+b+","+b+`"b"`+b+":"+b+"{}"+b+"}"+b, joined(pair("a", num(1)), pair("b", joined())))
	}
	read(t, "\" \u00a0 \"", text(" \u00a0 "))
}

// No other byte is a blank.
func TestJ1BytesThatAreNoBlanks(t *testing.T) {
	for c := range 256 {
		if c == 9 || c == 10 || c == 13 || c == 32 {
			continue
		}
		b := string([]byte{byte(c)})
		wrong(t, "[]"+b, 2, "ErrSyntax")
		if !strings.Contains(`"-0123456789[{`, b) {
			wrong(t, b+"null", 0, "ErrSyntax")
			wrong(t, "[1,"+b+"1]", 3, "ErrSyntax")
		}
	}
	marked(t, "^\u00a0 1", "1^\u2028", "1^\ufeff", "^\ufeff1")
}

// None of the lists that come out shares memory with another one.
func TestJ1ListsAreTheCallers(t *testing.T) {
	in := `[[1,2],[3],{"a":4,"b":5},{"a":6}]`
	want, _, _ := Parse(in)
	got, _, _ := Parse(in)
	for i, kid := range got.Kids {
		kid.Kids = kid.Kids[:cap(kid.Kids)]
		kid.Keys = kid.Keys[:cap(kid.Keys)]
		clear(kid.Kids)
		clear(kid.Keys)
		for k := i + 1; k < len(got.Kids); k++ {
			if !same(got.Kids[k], want.Kids[k]) {
				t.Errorf("%d, %d: %+v", i, k, got)
			}
		}
	}
	clear(got.Kids[:cap(got.Kids)])
	read(t, in, want)
}

func TestJ2NothingThere(t *testing.T) {
	marked(t, "^", " ^", "\t\n\r ^", "[^", "[ ^", "{^", "{\n^", "[1,^", "[1, ^", `{"a"^`, `{"a" ^`, `{"a":^`, `{"a": ^`, `{"a":1^`, `{"a":1 ^`, `{"a":1,^`, "[1^", "[[]^", "[{} ^")
}

func TestJ2SomethingBehind(t *testing.T) {
	marked(t, "null^null", "null ^null", "1 ^1", "1^,", "true^]", "[]^]", "[]^[", "{}^}", "{} ^:", `""^"`, `"a" ^"b"`, "1^a", "0^x", "-1^-", "1^.5", "1^e3", "1^E+3", "1^+1", "0^\x00", "null^\x00", "[] \n^\xff")
}

func TestJ2WhatIsNoValue(t *testing.T) {
	marked(t, "^a", "^]", "^}", "^,", "^:", "^+1", "^.5", "^'a'", `^\`, `^\u0041`, "^\x00", "^\xff", "^é", "^//", "^NaN", "^Infinity", "^undefined", "^True", "^NULL", " ^x", "[^x]", `{"a":^x}`, "[1, ^/]")
}

// Where a word begins that is not there with all letters, whatever stands there instead.
func TestJ2WordsCutShort(t *testing.T) {
	for _, word := range []string{"null", "true", "false"} {
		for n := 1; n < len(word); n++ {
			for _, behind := range []string{"", " ", "]", ",", "x", " " + word[n:], strings.ToUpper(word[n:]), "\"", "\\", "\x00", "\xff"} {
				wrong(t, word[:n]+behind, 0, "ErrSyntax")
				wrong(t, "[ "+word[:n]+behind, 2, "ErrSyntax")
				wrong(t, `{"a":`+word[:n]+behind, 5, "ErrSyntax")
			}
		}
	}
	marked(t, "^fulse", "^nrue", "^tull", "[1,^nul]", "[true,^tru", `{"null":^nil}`)
}

// What stands behind all letters is looked at by itself.
func TestJ2WordsThatGoOn(t *testing.T) {
	for _, word := range []string{"null", "true", "false"} {
		for _, behind := range []string{"x", "l", "e", "0", "_", "\"", "\\", "\x00", "\xff", "null", "[", ":"} {
			wrong(t, word+behind, len(word), "ErrSyntax")
			wrong(t, "["+word+behind, 1+len(word), "ErrSyntax")
		}
	}
	marked(t, "[null^l]", "[true^true]", `{"a":false^s}`)
}

func TestJ2Numbers(t *testing.T) {
	// no digit behind the sign: there
	marked(t, "-^", "-^ 1", "-^-1", "-^a", "-^]", "[-^]", "[-^,", "-^+1", "-^.5", "-^\x00", "-^\xb2", "-^٣")
	// a needless 0: where the number begins
	marked(t, "^00", "^01", "^-00", "^-01", "^0123", "^00000", " ^007", "[^00]", "[1, ^-09]", `{"a":^01`, "^00x", "^01.5", "^-0000000000000000000000")
	// a 0 that is not needless
	marked(t, "0 ^0", "0^-", "-0^-0", "0^.0", "0^x1", "-0^e1", "[0 ^1]")
	// too many digits: where the number begins
	marked(t, "^1000000000000000000", "^-1000000000000000000", "^9223372036854775807", "^-9223372036854775808", "^9999999999999999999", "^0000000000000000000",
		"[^1234567890123456789]", "[1,\n^-1234567890123456789", `{"a" : ^1234567890123456789x`, "^12345678901234567890123456789012345678901234567890", "^18446744073709551617")
	// 18 of them, and what stands behind
	marked(t, "999999999999999999 ^9", "999999999999999999^-", "-999999999999999999^.", "123456789012345678^x9")
}

func TestJ2TextsThatAreNotClosed(t *testing.T) {
	marked(t, `"^`, `"a^`, `"a b, ^`, `"\"^`, `"\\\"^`, `"\u0041^`, `"\ud83d\ude00^`, `["a^`, `["a","^`, `["a"^"`, `{"^`, `{"a^`, `{"a":"^`, `{"a":"}^`, "\"\xff^", "\"é\xe2\x82^")
}

// Bytes below 32 stand in no text.
func TestJ2LowBytes(t *testing.T) {
	for c := range 32 {
		b := string([]byte{byte(c)})
		marked(t, `"^`+b, `"^`+b+`"`, `"ab^`+b+`c"`, `["a","é^`+b+`"]`, `{"a^`+b+`":1}`, `{"a":"\n^`+b+`"}`, `"\u0041^`+b)
		marked(t, `"^\`+b+`"`, `"a^\u004`+b+`"`)
	}
}

func TestJ2Escapes(t *testing.T) {
	for c := range 256 {
		b := string([]byte{byte(c)})
		if !strings.Contains(`"\/bfnrt`, b) {
			marked(t, `"^\`+b+`"`, `"a^\`+b, `["a\n^\`+b+`"]`, `{"^\`+b+`":1}`)
		}
	}
	// cut short by the end
	marked(t, `"^\`, `"a^\`, `"\\^\`, `"^\u`, `"^\u0`, `"^\u00`, `"^\u004`, `["ab^\u`)
	// too few digits, and what is none of them
	marked(t, `"^\u"`, `"^\u0"`, `"^\u00"`, `"^\u004"`, `"^\u004g"`, `"^\ug041"`, `"^\u 041"`, `"^\u+041"`, `"^\u-041"`, `"^\u0_41"`, `"^\u0x41"`, `"^\u{41}"`, "\"^\\u004\xff\"", `"^\u00é"`, `"a\u0041^\u00-1"`)
	marked(t, `"^\U0041"`, `"^\x41"`, `"^\0"`, `"^\'"`, `"^\N"`, `"^\v"`, `"^\a"`)
	for c := range 256 {
		if b := string([]byte{byte(c)}); !strings.Contains("0123456789abcdefABCDEF", b) {
			marked(t, `"^\u`+b+`041"`, `"^\u0`+b+`41"`, `"^\u00`+b+`1"`, `"^\u004`+b+`"`)
		}
	}
}

// A half alone, or with another one than its own: where the first one begins.
func TestJ2Halves(t *testing.T) {
	for _, first := range []string{"d800", "D83D", "dbff"} {
		for _, behind := range []string{"", `"`, "a", `a"`, `\`, `\"`, `\n"`, `\u`, `\u"`, `\ud`, `\udc0`, `\udc0g"`, `\u0041"`, `\ud7ff"`, `\ud800"`, `\udbff"`, `\ue000"`, `\uffff"`, `\ud83d\ude00"`, ` \udc00"`, `udc00"`, "\xed\xb0\x80\"", `\U0000dc00"`, `\\udc00"`} {
			marked(t, `"^\u`+first+behind, `["","a\u0041^\u`+first+behind, `{"^\u`+first+behind, `"\ud83d\ude00^\u`+first+behind)
		}
		read(t, `"\u`+first+`\udc00\u0041"`, text(string([]rune{map[string]rune{"d800": 0x10000, "D83D": 0x1F400, "dbff": 0x10FC00}[first], 'A'})))
	}
	for _, second := range []string{"dc00", "DE00", "dfff"} {
		for _, behind := range []string{"", `"`, `\ud83d"`, `\udc00"`, "a"} {
			marked(t, `"^\u`+second+behind, `"a^\u`+second+behind, `"\ud83d\ude00^\u`+second+behind)
		}
	}
}

func TestJ2Lists(t *testing.T) {
	marked(t, "[^,]", "[^,1]", "[1,^]", "[1,^,2]", "[1,2,^]", "[1, ^]", "[1 ^2]", "[1^}", "[^}", "[^:", "[1^:2]", "[[]^[]]", "[[^,]]", `["a"^:1]`, "[1,2^;3]", "[^=", `[1,"a"^null]`)
}

func TestJ2Maps(t *testing.T) {
	marked(t, "{^,}", "{^]", "{^:", "{^1:2}", "{^null:1}", "{^{}:1}", "{^[]}", "{^a:1}", "{^'a':1}", `{"a"^}`, `{"a" ^}`, `{"a"^,}`, `{"a" ^1}`, `{"a"^"b"}`, `{"a"^=1}`, `{"a":^}`, `{"a":^,}`, `{"a":^:1}`, `{"a":1,^}`, `{"a":1, ^}`, `{"a":1,^,"b":2}`,
		`{"a":1^]`, `{"a":1^:2}`, `{"a":1 ^"b":2}`, `{"a":1,^2:3}`, `{"a":1,"b"^}`, `{"a":1,"b":^}`, `{"a":[1^}`, `{"a":{^]`, `{"a":1}^}`, `[{"a"^]`)
	// blanks can be gone on with
	marked(t, `{ ^1`, "{\n\t^]", `{"a" : ^]`, "{\"a\"\r\n^;", `{"a":1 , ^]`)
}

func TestJ2KeysTwice(t *testing.T) {
	wrong(t, `{"a":1,"a":2}`, 7, "ErrTwice")
	wrong(t, `{"":1,"":2}`, 6, "ErrTwice")
	wrong(t, "{ \"a\" : 1 , \n\"a\" : 2}", 13, "ErrTwice")
	wrong(t, `{"a":1,"b":2,"c":3,"b":4,"a":5}`, 19, "ErrTwice")
	wrong(t, `{"a":{"a":1},"b":[{"a":1}],"a":1}`, 27, "ErrTwice")
	wrong(t, `[{"a":1},{"a":1,"a":1}]`, 16, "ErrTwice")
	wrong(t, `{"b":{"a":1,"a":2}}`, 12, "ErrTwice")
	// by other escapes
	wrong(t, `{"a":1,"\u0061":2}`, 7, "ErrTwice")
	wrong(t, `{"\u0061":1,"a":2}`, 12, "ErrTwice")
	wrong(t, `{"\/":1,"/":2}`, 8, "ErrTwice")
	wrong(t, `{"\n":1,"\u000a":2}`, 8, "ErrTwice")
	wrong(t, `{"\u000A":1,"\u000a":2}`, 12, "ErrTwice")
	wrong(t, "{\"\\ud83d\\ude00\":1,\"\U0001F600\":2}", 18, "ErrTwice")
	wrong(t, "{\"\xff\":1,\"\xff\":2}", 7, "ErrTwice")
}

// It is told ahead of what is wrong behind the text, but only if that is a text.
func TestJ2KeysTwiceAndOtherFaults(t *testing.T) {
	for _, behind := range []string{"", "}", "x", ":", ":1", ":x}", ",", `"a"`} {
		wrong(t, `{"a":1,"a"`+behind, 7, "ErrTwice")
	}
	marked(t, `{"a":1,"a^`, `{"a":1,"a^`+"\x00", `{"a":1,"a^\q":2}`, `{"a":1 ^"a":2}`, `{"a":^x,"a":1}`, `{"a":1,"b":^,"a":2}`)
}

// levelsOf tells how many lists and maps stand in each other in a value.
func levelsOf(j api.Json) int {
	most := 0
	for _, kid := range j.Kids {
		most = max(most, levelsOf(kid))
	}
	if j.Kind == api.JList || j.Kind == api.JMap {
		most++
	}
	return most
}

func TestJ2Deep(t *testing.T) {
	for _, k := range []struct {
		open, inner, end string
		step             int // bytes of each level
	}{{"[", "", "]", 1}, {"[", "1", "]", 1}, {"[", "null", "]", 1}, {`{"a":`, "1", "}", 5}, {`{"a":`, `"[{"`, "}", 5}, {"[\n", `"["`, " ]", 2}} {
		nest := func(levels int) string {
			return strings.Repeat(k.open, levels) + k.inner + strings.Repeat(k.end, levels)
		}
		j, at, err := Parse(nest(api.MaxDeep))
		if err != nil || at != 0 {
			t.Errorf("%q: %d %v", k.open, at, err)
		}
		if levels := levelsOf(j); levels != api.MaxDeep {
			t.Errorf("%q: %d levels", k.open, levels)
		}
		for _, more := range []int{1, 2, 100, 100000} {
			wrong(t, nest(api.MaxDeep+more), api.MaxDeep*k.step, "ErrFull")
		}
		for _, kind := range []string{"[", "{", "[]", "{}", "{x", `{"a":1}`} {
			wrong(t, strings.Repeat(k.open, api.MaxDeep)+kind, api.MaxDeep*k.step, "ErrFull")
		}
	}
}

// What has been closed does not count; what is no list stands in any.
func TestJ2DeepBesideEachOther(t *testing.T) {
	deep := strings.Repeat("[", api.MaxDeep-1) + strings.Repeat("]", api.MaxDeep-1)
	wide := "[" + deep + `,{"a":` + deep[1:len(deep)-1] + "}," + deep + "]"
	if _, at, err := Parse(wide); err != nil {
		t.Errorf("%d %v", at, err)
	}
	open := strings.Repeat("[", api.MaxDeep)
	wrong(t, open+"1,[", api.MaxDeep+2, "ErrFull")
	wrong(t, open+"],[],[[", api.MaxDeep+6, "ErrFull")
	marked(t, open+"1,^]", open+"^", open+"^,", open+"^}", open+"],[^", "["+deep+"^[")
	wrong(t, "[{},[],"+open[1:]+"{", 6+api.MaxDeep, "ErrFull")
}

// The first one counts, of whatever kind it is.
func TestJ2TheFirstFault(t *testing.T) {
	open := strings.Repeat("[", api.MaxDeep+1)
	marked(t, "[^x,01,{\"a\":1,\"a\":2},"+open, "[^01,x", "[^nul,01", "[\"^\\q\x00\"", "[\"^\x00\\q\"", "[\"a\"^\"", `{^1:1,"a":1,"a":2}`)
	wrong(t, `{"a":1,"a":`+open, 7, "ErrTwice")
	wrong(t, open+`{"a":1,"a":2}x`, api.MaxDeep, "ErrFull")
	wrong(t, "{\"b\":"+open[1:]+"],\"b\":1,x", 4+api.MaxDeep, "ErrFull")
}

// Calls do not hang on each other.
func TestJ2CallsAtTheSameTime(t *testing.T) {
	var all sync.WaitGroup
	for range 8 {
		all.Go(func() {
			for range 100 {
				read(t, `[1,{"a":"\u00e9"}]`, list(num(1), pair("a", text("é"))))
				wrong(t, `{"a":1,"a":2}`, 7, "ErrTwice")
				wrong(t, "[01]", 1, "ErrSyntax")
			}
		})
	}
	all.Wait()
}
