package lay

import (
	"strings"
	"sync"
	"testing"

	"amanuensis/api"
)

// laid fails if the layout of a text is not the one that is wanted, or that of the layout is another one.
func laid(t *testing.T, text, want string) {
	t.Helper()
	for _, from := range []string{text, want} {
		got, err := Layout(from)
		if err != nil || got != want {
			t.Errorf("%q:\ngot\n%s%v\nwant\n%s", from, got, err, want)
		}
	}
}

// stays fails if a text is not its own layout.
func stays(t *testing.T, text string) {
	t.Helper()
	laid(t, text, text)
}

// wrong fails if there is a layout of a text.
func wrong(t *testing.T, text string) {
	t.Helper()
	if got, err := Layout(text); got != "" || err != api.ErrSyntax {
		t.Errorf("%q: got %q, %v", text, got, err)
	}
}

// long gives a TText of so many characters.
func long(chars int) string { return `"` + strings.Repeat("a", chars-2) + `"` }

// times gives a text so often.
func times(n int, text string) string { return strings.Repeat(text, n) }

func TestL1RemarksAndItems(t *testing.T) {
	laid(t, "{- a -} def f(x) = -- b\n [x, (x)(1), f];pub use a . b as c ;",
		"{- a -}\n-- b\ndef f(x) = [x, (x)(1), f];\npub use a.b as c;\n")
	wrong(t, "def f = 1")
}

func TestL1NothingInIt(t *testing.T) {
	laid(t, "", "")
	for _, space := range []string{" ", "\n", "\t", "\r\n", " \n\n\t\r "} {
		laid(t, space, "")
		laid(t, space+"def f=1;"+space, "def f = 1;\n")
	}
}

func TestL1RemarksAlone(t *testing.T) {
	laid(t, "--", "--\n")
	laid(t, "--\n", "--\n")
	laid(t, "-- a", "-- a\n")
	laid(t, "  -- a  \n\n\n -- b ", "-- a  \n-- b \n")
	laid(t, "{--}", "{--}\n")
	laid(t, "{- a -}{- b -}", "{- a -}\n{- b -}\n")
	laid(t, " {- {- a -} b -} \t-- c\r\n", "{- {- a -} b -}\n-- c\r\n")
	laid(t, "{- a -}-- {- b\n-- -}", "{- a -}\n-- {- b\n-- -}\n")
}

// Those of an item come ahead of it, wherever they stand in it; those behind its `;` belong to the next one.
func TestL1RemarksOfItems(t *testing.T) {
	laid(t, "{-1-}pub{-2-}def{-3-}f{-4-}({-5-}x{-6-},{-7-}y{-8-}){-9-}={-10-}x{-11-};{-12-}",
		"{-1-}\n{-2-}\n{-3-}\n{-4-}\n{-5-}\n{-6-}\n{-7-}\n{-8-}\n{-9-}\n{-10-}\n{-11-}\npub def f(x, y) = x;\n{-12-}\n")
	laid(t, "{-1-}pub{-2-}use{-3-}a{-4-}.{-5-}b{-6-}as{-7-}c{-8-};{-9-}use a.d;{-10-}",
		"{-1-}\n{-2-}\n{-3-}\n{-4-}\n{-5-}\n{-6-}\n{-7-}\n{-8-}\npub use a.b as c;\n{-9-}\nuse a.d;\n{-10-}\n")
	laid(t, "def f = 1; -- f\ndef g = 2; -- g\n-- end", "def f = 1;\n-- f\ndef g = 2;\n-- g\n-- end\n")
	laid(t, "def f = 1\n-- f\n;def g -- g\n= 2;", "-- f\ndef f = 1;\n-- g\ndef g = 2;\n")
}

func TestL1RemarksInTheMidstOfExpressions(t *testing.T) {
	laid(t, "def f = let{-1-}x{-2-}={-3-}1{-4-}in{-5-}if{-6-}true{-7-}then{-8-}?{-9-}else{-10-}fun{-11-}({-12-}){-13-}=>{-14-}x;",
		"{-1-}\n{-2-}\n{-3-}\n{-4-}\n{-5-}\n{-6-}\n{-7-}\n{-8-}\n{-9-}\n{-10-}\n{-11-}\n{-12-}\n{-13-}\n{-14-}\n"+
			"def f = let x = 1 in if true then ? else fun() => x;\n")
	laid(t, "def f = [{-1-}]{-2-}+{-3-}g{-4-}({-5-}1{-6-},{-7-}2{-8-}){-9-}({-10-}){-11-}*({-12-}[{-13-}3{-14-},{-15-}4{-16-}]{-17-});",
		"{-1-}\n{-2-}\n{-3-}\n{-4-}\n{-5-}\n{-6-}\n{-7-}\n{-8-}\n{-9-}\n{-10-}\n{-11-}\n{-12-}\n{-13-}\n{-14-}\n{-15-}\n{-16-}\n{-17-}\n"+
			"def f = [] + g(1, 2)() * ([3, 4]);\n")
	laid(t, "def f = 1 -- one\n- {--}2;", "-- one\n{--}\ndef f = 1 - 2;\n")
}

// A remark is as it is, also if it has lines, and blanks in and ahead of them.
func TestL1RemarksOfSeveralLines(t *testing.T) {
	laid(t, "  {- a\n   b\n\n\tc -}  def f = {-\n-}1;", "{- a\n   b\n\n\tc -}\n{-\n-}\ndef f = 1;\n")
	laid(t, "def f = 1; {-\n{-\n-}\n-}", "def f = 1;\n{-\n{-\n-}\n-}\n")
	laid(t, "-- \xff\xc3\ndef f = 1;{- \xf0 é -}", "-- \xff\xc3\ndef f = 1;\n{- \xf0 é -}\n")
}

// A remark has no bearing on how wide something is.
func TestL1RemarksAreNotCounted(t *testing.T) {
	laid(t, "def f = 1 {-"+times(100, "-")+"-} + 2;", "{-"+times(100, "-")+"-}\ndef f = 1 + 2;\n")
}

func TestL1Wrong(t *testing.T) {
	for _, text := range []string{
		"def f = 1", "def f = ;", "def = 1;", "def f 1;", "f = 1;", "pub", "pub f;", "use", "use a;", "use a.;", "use .b;", "use a.b as;", "use a.b as c",
		"def f( = 1;", "def f(x = 1;", "def f(x,) = 1;", "def f(1) = 1;", "def f = (1;", "def f = [1;", "def f = [1,];", "def f = g(;", "def f = g(1;", "def f = ();",
		"def f = 1 +;", "def f = 1 == 2 == 3;", "def f = -1;", "def f = let x 1 in 2;", "def f = let x = 1;", "def f = if 1 then 2;", "def f = if 1 else 2;", "def f = fun x => x;",
		"def f = fun(x) x;", "def f = 1;;", ";", "1", "def f = 1; 2", "x def f = 1;", "def f = a.b;", "def f = 1 2;", "def f = use;",
		"{- a", "{- {- -}", "def f = 1; {-", "def f = \"a;", "def f = \"\\q\";", "def f = 1234567890123456789;", "def f = !;", "\xff", "def f = \xc3;", "def f = 1;}", "\x00", " \v",
		"def f = " + times(api.MaxNest+1, "(") + "1" + times(api.MaxNest+1, ")") + ";",
	} {
		wrong(t, text)
	}
}

// A `?` is nothing that is wrong.
func TestL1Holes(t *testing.T) {
	laid(t, "def f=[?,(?),?(?)+?];", "def f = [?, (?), ?(?) + ?];\n")
}

func TestL2BlanksBetweenTokens(t *testing.T) {
	for text, want := range map[string]string{
		"1+2-3*4":                               "1 + 2 - 3 * 4",
		"1==2":                                  "1 == 2",
		"1<2":                                   "1 < 2",
		`"a"++"b"`:                              `"a" ++ "b"`,
		"let x=1in x":                           "let x = 1 in x",
		"if true then 1else 2":                  "if true then 1 else 2",
		"fun ( x , y ) =>x":                     "fun(x, y) => x",
		"fun ( ) =>1":                           "fun() => 1",
		"[ ]":                                   "[]",
		"[ 1 , 2 ]":                             "[1, 2]",
		"[ [ ] , [ 1 ] ]":                       "[[], [1]]",
		"g ( )":                                 "g()",
		"g ( 1 , 2 )":                           "g(1, 2)",
		"g ( 1 ) ( 2 ) ( )":                     "g(1)(2)()",
		"[ g ] ( 1 )":                           "[g](1)",
		"1 ( 2 )":                               "1(2)",
		`"(" ( ")" )`:                           `"("(")")`,
		"true ( false )":                        "true(false)",
		"? ( ? )":                               "?(?)",
		"( ( ( 1 ) ) )":                         "(((1)))",
		"[ ( 1 ) ]":                             "[(1)]",
		"[1,(2)]":                               "[1, (2)]",
		"g((1),(2))":                            "g((1), (2))",
		"(g)(1)":                                "(g)(1)",
		"(g)((1))":                              "(g)((1))",
		"(g)(1)(2)":                             "(g)(1)(2)",
		"1+(2)":                                 "1 + (2)",
		"1-(2)":                                 "1 - (2)",
		"1*(2)":                                 "1 * (2)",
		"1<(2)":                                 "1 < (2)",
		"1==(2)":                                "1 == (2)",
		"1++(2)":                                "1 ++ (2)",
		"1+(g)(2)":                              "1 + (g)(2)",
		"(1)+2":                                 "(1) + 2",
		"let x=(1)in(2)":                        "let x = (1) in (2)",
		"if(1)then(2)else(3)":                   "if (1) then (2) else (3)",
		"fun(x)=>(x)":                           "fun(x) => (x)",
		"if[1]then[2]else[3]":                   "if [1] then [2] else [3]",
		"(fun(x)=>x)(1)":                        "(fun(x) => x)(1)",
		"(let x=1in x)":                         "(let x = 1 in x)",
		"[let x=1in x,if 1then 2else 3]":        "[let x = 1 in x, if 1 then 2 else 3]",
		`"a . b ( , ; [" ++ " "`:                `"a . b ( , ; [" ++ " "`,
		"[\".\",\",\",\"[\",\"]\",\")\",\";\"]": "[\".\", \",\", \"[\", \"]\", \")\", \";\"]",
	} {
		laid(t, "def f="+text+";", "def f = "+want+";\n")
	}
}

func TestL2BlanksOfItems(t *testing.T) {
	laid(t, "use\na\n.\nb\n;", "use a.b;\n")
	laid(t, "use a.b as c;", "use a.b as c;\n")
	laid(t, "pub use a .b  as  c ;", "pub use a.b as c;\n")
	laid(t, "pub\ndef\nf\n=\n1\n;", "pub def f = 1;\n")
	laid(t, "def f ( ) = 1 ;", "def f() = 1;\n")
	laid(t, "def f(x,y,z)=x;", "def f(x, y, z) = x;\n")
	laid(t, "def f=(1);", "def f = (1);\n")
	laid(t, "def f()=(1);", "def f() = (1);\n")
	laid(t, "def f=1;def g=2;use a.b;", "def f = 1;\ndef g = 2;\nuse a.b;\n")
	laid(t, "def f\r\n=\r\n1\r\n;\r\n", "def f = 1;\n")
}

func TestL3UsesStayOneLine(t *testing.T) {
	name := times(100, "a")
	laid(t, "pub use "+name+" . "+name+" as "+name+" ;", "pub use "+name+"."+name+" as "+name+";\n")
}

// A def may have 80 characters, whatever it is.
func TestL3DefsThatJustFit(t *testing.T) {
	stays(t, "def f = "+long(71)+";\n")
	laid(t, "def f = "+long(72)+";", "def f =\n  "+long(72)+";\n")
	stays(t, "pub def f = "+long(67)+";\n")
	laid(t, "pub def f = "+long(68)+";", "pub def f =\n  "+long(68)+";\n")
	stays(t, "def f(x, y) = "+long(65)+";\n")
	laid(t, "def f(x, y) = "+long(66)+";", "def f(x, y) =\n  "+long(66)+";\n")
	stays(t, "def f = ["+long(69)+"];\n")
	laid(t, "def f = [ "+long(70)+" ];", "def f =\n  ["+long(70)+"];\n")
	stays(t, "def fgh = 1"+times(17, " + 1")+";\n")
	laid(t, "def fghi = 1"+times(17, " + 1")+";", "def fghi =\n  1"+times(17, " + 1")+";\n")
}

// What is counted are characters: of two bytes, of four, and bytes that are no character.
func TestL3Characters(t *testing.T) {
	for _, c := range []string{"é", "λ", "\u2028", "\U0001F600", "\xff", "\xc3", "\xed"} {
		stays(t, `def f = "`+times(69, c)+"\";\n")
		laid(t, `def f = "`+times(70, c)+`";`, "def f =\n  \""+times(70, c)+"\";\n")
		stays(t, "def f =\n  [\""+times(73, c)+"\"];\n")
		laid(t, "def f = [\""+times(74, c)+"\"];", "def f =\n  [\n    \""+times(74, c)+"\"\n  ];\n")
	}
}

func TestL3NamesOfDefs(t *testing.T) {
	stays(t, "def "+times(71, "é")+" = 1;\n")
	laid(t, "def "+times(72, "é")+" = 1;", "def "+times(72, "é")+" =\n  1;\n")
	params := times(100, "x, ") + "x"
	laid(t, "pub def f("+params+") = 1;", "pub def f("+params+") =\n  1;\n")
}

// In a line an expression has place behind its blanks for one sign more, whether there is one or not.
func TestL3ExpressionsThatJustFit(t *testing.T) {
	stays(t, "def f =\n  ["+long(75)+"];\n")
	laid(t, "def f = ["+long(76)+"];", "def f =\n  [\n    "+long(76)+"\n  ];\n")
	stays(t, "def f =\n  [\n    ["+long(73)+"],\n    ["+long(73)+"]\n  ];\n")
	laid(t, "def f = [["+long(74)+"], 1, ["+long(74)+"]];",
		"def f =\n  [\n    [\n      "+long(74)+"\n    ],\n    1,\n    [\n      "+long(74)+"\n    ]\n  ];\n")
	stays(t, "def f =\n  if true then\n    ["+long(73)+"]\n  else\n    ["+long(73)+"];\n")
	laid(t, "def f = if true then ["+long(74)+"] else ["+long(74)+"];",
		"def f =\n  if true then\n    [\n      "+long(74)+"\n    ]\n  else\n    [\n      "+long(74)+"\n    ];\n")
}

func TestL3Lets(t *testing.T) {
	laid(t, "def f = let x = "+long(50)+" in let y = "+long(50)+" in x ++ y;",
		"def f =\n  let x = "+long(50)+" in\n  let y = "+long(50)+" in x ++ y;\n")
	laid(t, "def f = let x = "+long(50)+" in let y = "+long(70)+" in x ++ y;",
		"def f =\n  let x = "+long(50)+" in\n  let y = "+long(70)+" in\n  x ++ y;\n")
	// the value stays flat
	laid(t, "def f = let x = ["+long(90)+", let y = "+long(90)+" in y] in x;",
		"def f =\n  let x = ["+long(90)+", let y = "+long(90)+" in y] in\n  x;\n")
	laid(t, "def f = let x = ("+long(90)+") in (x);", "def f =\n  let x = ("+long(90)+") in\n  (x);\n")
}

func TestL3Ifs(t *testing.T) {
	laid(t, "def f = if a then "+long(40)+" else "+long(40)+";",
		"def f =\n  if a then\n    "+long(40)+"\n  else\n    "+long(40)+";\n")
	laid(t, "def f = if ["+long(90)+"] == [] then (1) else if (b) then (2) else "+long(70)+";",
		"def f =\n  if ["+long(90)+"] == [] then\n    (1)\n  else\n    if (b) then\n      (2)\n    else\n      "+long(70)+";\n")
}

func TestL3Funs(t *testing.T) {
	laid(t, "def f = fun(x, y) => "+long(70)+";", "def f =\n  fun(x, y) =>\n    "+long(70)+";\n")
	laid(t, "def f = fun() => fun(x) => ("+long(70)+");", "def f =\n  fun() =>\n    fun(x) =>\n      ("+long(70)+");\n")
	params := times(40, "x, ") + "x"
	laid(t, "def f = fun("+params+") => 1;", "def f =\n  fun("+params+") =>\n    1;\n")
}

func TestL3Calls(t *testing.T) {
	laid(t, "def f = g("+long(40)+", "+long(40)+", 1);", "def f =\n  g(\n    "+long(40)+",\n    "+long(40)+",\n    1\n  );\n")
	laid(t, "def f = g("+long(80)+");", "def f =\n  g(\n    "+long(80)+"\n  );\n")
	// what is called stays flat, also a call
	laid(t, "def f = g("+long(80)+")(1);", "def f =\n  g("+long(80)+")(\n    1\n  );\n")
	laid(t, "def f = (g("+long(80)+"))((1), 2);", "def f =\n  (g("+long(80)+"))(\n    (1),\n    2\n  );\n")
	laid(t, "def f = [g, "+long(80)+"](1)(2);", "def f =\n  [g, "+long(80)+"](1)(\n    2\n  );\n")
	// without parts it is flat
	laid(t, "def f = g("+long(80)+")();", "def f =\n  g("+long(80)+")();\n")
	laid(t, "def f = g("+long(80)+")()(1);", "def f =\n  g("+long(80)+")()(\n    1\n  );\n")
	laid(t, "def f = "+long(80)+"( );", "def f =\n  "+long(80)+"();\n")
	laid(t, "def f = [g("+long(80)+")(), 1];", "def f =\n  [\n    g("+long(80)+")(),\n    1\n  ];\n")
}

func TestL3Lists(t *testing.T) {
	laid(t, "def f = ["+long(80)+"];", "def f =\n  [\n    "+long(80)+"\n  ];\n")
	laid(t, "def f = [[], "+long(80)+", []];", "def f =\n  [\n    [],\n    "+long(80)+",\n    []\n  ];\n")
	laid(t, "def f = [let x = 1 in "+long(80)+", fun() => "+long(80)+", "+long(40)+" ++ "+long(40)+"];",
		"def f =\n  [\n    let x = 1 in\n    "+long(80)+",\n    fun() =>\n      "+long(80)+",\n    "+long(40)+"\n    ++\n      "+long(40)+"\n  ];\n")
}

func TestL3Groups(t *testing.T) {
	laid(t, "def f = ("+long(80)+");", "def f =\n  (\n    "+long(80)+"\n  );\n")
	laid(t, "def f = (("+long(80)+"));", "def f =\n  (\n    (\n      "+long(80)+"\n    )\n  );\n")
	laid(t, "def f = (let x = 1 in "+long(70)+") + 1;", "def f =\n  (\n    let x = 1 in\n    "+long(70)+"\n  )\n  +\n    1;\n")
}

// The left ones of a row are all indented by as much as the row.
func TestL3Binaries(t *testing.T) {
	for _, sign := range []string{"+", "-", "++", "*", "==", "<"} {
		laid(t, "def f = "+long(40)+sign+long(40)+";", "def f =\n  "+long(40)+"\n  "+sign+"\n    "+long(40)+";\n")
	}
	laid(t, "def f = "+long(40)+" + "+long(40)+" - "+long(40)+" * "+long(40)+" == 1;",
		"def f =\n  "+long(40)+"\n  +\n    "+long(40)+"\n  -\n    "+long(40)+"\n    *\n      "+long(40)+"\n  ==\n    1;\n")
	laid(t, "def f = (1) + (2) + ("+long(80)+");", "def f =\n  (1) + (2)\n  +\n    (\n      "+long(80)+"\n    );\n")
}

// What is one token stays as it is.
func TestL3TokensThatAreTooLong(t *testing.T) {
	name := times(90, "x")
	laid(t, "def f = "+name+";", "def f =\n  "+name+";\n")
	laid(t, "def f = ["+name+","+long(200)+", true];", "def f =\n  [\n    "+name+",\n    "+long(200)+",\n    true\n  ];\n")
	stays(t, "def "+times(80, "f")+" =\n  123456789012345678;\n")
	stays(t, "def "+times(80, "f")+" =\n  ?;\n")
}

// Where the blanks alone are too many, all that can be is taken apart.
func TestL3Deep(t *testing.T) {
	deep := 45
	var want strings.Builder
	want.WriteString("def f =\n")
	for i := range deep {
		want.WriteString(times(2+2*i, " ") + "[\n")
	}
	want.WriteString(times(2+2*deep, " ") + "12\n")
	for i := deep - 1; i >= 0; i-- {
		want.WriteString(times(2+2*i, " ") + "]")
		if i > 0 {
			want.WriteString("\n")
		}
	}
	laid(t, "def f = "+times(deep, "[")+"12"+times(deep, "]")+";", want.String()+";\n")
}

func TestL3OtherItemsAroundLongOnes(t *testing.T) {
	laid(t, "use a.b;def f = [-- one\n"+long(80)+"-- two\n];-- three\ndef g = 1;",
		"use a.b;\n-- one\n-- two\ndef f =\n  [\n    "+long(80)+"\n  ];\n-- three\ndef g = 1;\n")
}

// Calls do not hang on each other.
func TestL1CallsAtTheSameTime(t *testing.T) {
	text := "def f = [" + long(80) + ", {- so -} 1]; use a.b;"
	want := "{- so -}\ndef f =\n  [\n    " + long(80) + ",\n    1\n  ];\nuse a.b;\n"
	var all sync.WaitGroup
	for range 8 {
		all.Go(func() {
			for range 50 {
				laid(t, text, want)
				wrong(t, text+"(")
			}
		})
	}
	all.Wait()
}
