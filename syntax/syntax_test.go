package syntax_test

import (
	"fmt"
	"strings"
	"testing"

	"foundry/api"
	"foundry/syntax"
)

// shownExpr is an expression, with all that it has.
func shownExpr(e api.Expr) string {
	s := [...]string{"", "none", "true", "false", "int", "text", "name", "list", "dict", "each", "call", "index", "not", "minus", "binary"}[e.Kind]
	if e.Text != "" || e.Kind == api.ExprText {
		s += fmt.Sprintf(":%q", e.Text)
	}
	if e.Number != 0 || e.Kind == api.ExprInt {
		s += fmt.Sprint("=", e.Number)
	}
	if len(e.Names) > 0 {
		s += "<" + strings.Join(e.Names, " ") + ">"
	}
	if len(e.Kids) == 0 {
		return s
	}
	var kids []string
	for _, kid := range e.Kids {
		kids = append(kids, shownExpr(kid))
	}
	return s + "(" + strings.Join(kids, " ") + ")"
}

// shown are statements, with all that they have.
func shown(l []api.Stmt) string {
	var all []string
	for _, x := range l {
		s := [...]string{"?", "pass", "return", "set", "load", "do", "def", "if", "for"}[x.Kind]
		if x.Text != "" {
			s += fmt.Sprintf(":%q", x.Text)
		}
		if len(x.Names) > 0 {
			s += "<" + strings.Join(x.Names, " ") + ">"
		}
		if e := shownExpr(x.Expr); e != "" {
			s += " " + e
		}
		if len(x.Body) > 0 {
			s += " {" + shown(x.Body) + "}"
		}
		if len(x.Else) > 0 {
			s += " else {" + shown(x.Else) + "}"
		}
		all = append(all, s)
	}
	return strings.Join(all, "; ")
}

// parses tells that a source has these statements.
func parses(t *testing.T, s, want string) {
	t.Helper()
	l, f := syntax.Parse(s)
	if shown(l) != want || f != (api.Fault{}) {
		t.Errorf("Parse(%.200q):\n%s %v, must be\n%s", s, shown(l), f, want)
	}
}

// reads tells that an expression is this one, as one that is done and as one that a name has.
func reads(t *testing.T, s, want string) {
	t.Helper()
	parses(t, s, "do "+want)
	parses(t, "x = "+s, `set:"x" `+want)
}

// faults tells that a source has this fault, for Parse and Canon.
func faults(t *testing.T, s string, e api.Errno, at int) {
	t.Helper()
	l, f := syntax.Parse(s)
	if len(l) != 0 || f != (api.Fault{Err: e, At: at}) {
		t.Errorf("Parse(%.200q): %.200s %v, must be %d at %d", s, shown(l), f, e, at)
	}
	c, f := syntax.Canon(s)
	if c != "" || f != (api.Fault{Err: e, At: at}) {
		t.Errorf("Canon(%.200q): %.200s %v, must be %d at %d", s, c, f, e, at)
	}
}

// faultsAt tells that a source has this fault at the one place of it that is marked by $.
func faultsAt(t *testing.T, e api.Errno, marked string) {
	t.Helper()
	at := strings.IndexByte(marked, '$')
	faults(t, marked[:at]+marked[at+1:], e, at)
}

// writes tells that a source is written so.
func writes(t *testing.T, s, want string) {
	t.Helper()
	c, f := syntax.Canon(s)
	if c != want || f != (api.Fault{}) {
		t.Errorf("Canon(%.200q):\n%.300q %v, must be\n%.300q", s, c, f, want)
	}
}

func TestG1SmallStatements(t *testing.T) {
	parses(t, "", "")
	parses(t, "\n # so\n\n", "")
	parses(t, "pass", "pass")
	parses(t, "pass\n\npass # so\n", "pass; pass")
	parses(t, "a", `do name:"a"`)
	parses(t, "a = b", `set:"a" name:"b"`)
	parses(t, "a=b", `set:"a" name:"b"`)
	parses(t, "a == b", `do binary:"=="(name:"a" name:"b")`)
	parses(t, "a = b == c", `set:"a" binary:"=="(name:"b" name:"c")`)
	parses(t, "a\nb = 1\nc()", `do name:"a"; set:"b" int=1; do call(name:"c")`)
	parses(t, `load("x", "y")`, `load:"x"<y>`)
	parses(t, `load("a/b", "y", "_", "y", "Z0")`, `load:"a/b"<y _ y Z0>`)
	parses(t, `load("", "y")`, `load<y>`)
	parses(t, "load(\n\"\\n\",\n\"y\")", `load:"\n"<y>`)
	parses(t, "def f():\n return", `def:"f" {return none}`)
	parses(t, "def f():\n return None", `def:"f" {return none}`)
	parses(t, "def f():\n return a", `def:"f" {return name:"a"}`)
	parses(t, "def f():\n return -1", `def:"f" {return minus(int=1)}`)
}

func TestG1Blocks(t *testing.T) {
	parses(t, "if a:\n pass", `if name:"a" {pass}`)
	parses(t, "if a:\n pass\n b\nc", `if name:"a" {pass; do name:"b"}; do name:"c"`)
	parses(t, "if a:\n pass\nelse:\n b\nc", `if name:"a" {pass} else {do name:"b"}; do name:"c"`)
	parses(t, "if a:\n if b:\n  c\n else:\n  d", `if name:"a" {if name:"b" {do name:"c"} else {do name:"d"}}`)
	parses(t, "if a:\n if b:\n  c\nelse:\n  d", `if name:"a" {if name:"b" {do name:"c"}} else {do name:"d"}`)
	parses(t, "if a:\n pass\nelse:\n if b:\n  pass\n else:\n  pass", `if name:"a" {pass} else {if name:"b" {pass} else {pass}}`)
	parses(t, "for i in a:\n    pass\n", `for:"i" name:"a" {pass}`)
	parses(t, "for i in a in b:\n pass", `for:"i" binary:"in"(name:"a" name:"b") {pass}`)
	parses(t, "for i in a:\n for j in i:\n  b = j", `for:"i" name:"a" {for:"j" name:"i" {set:"b" name:"j"}}`)
	parses(t, "def f():\n pass", `def:"f" {pass}`)
	parses(t, "def f(a):\n pass\ndef f(a, b, c):\n pass", `def:"f"<a> {pass}; def:"f"<a b c> {pass}`)
	parses(t, "def f(f):\n for i in f:\n  if i:\n   return i\n return\nreturned", `def:"f"<f> {for:"i" name:"f" {if name:"i" {return name:"i"}}; return none}; do name:"returned"`)
	parses(t, "def f():\n pass\nload(\"x\", \"y\")", `def:"f" {pass}; load:"x"<y>`)
	deep, want := "", "pass"
	for i := range api.MaxNest {
		deep += strings.Repeat(" ", i) + "if a:\n"
		want = `if name:"a" {` + want + "}"
	}
	parses(t, deep+strings.Repeat(" ", api.MaxNest)+"pass", want)
}

func TestG1Atoms(t *testing.T) {
	reads(t, "a", `name:"a"`)
	reads(t, "0", "int=0")
	reads(t, "9007199254740991", "int=9007199254740991")
	reads(t, `""`, `text:""`)
	reads(t, `"\"a\n("`, `text:"\"a\n("`)
	reads(t, "True", "true")
	reads(t, "False", "false")
	reads(t, "None", "none")
	reads(t, "(a)", `name:"a"`)
	reads(t, "((1))", "int=1")
	reads(t, "[]", "list")
	reads(t, "[1]", "list(int=1)")
	reads(t, "[1, [a], (b)]", `list(int=1 list(name:"a") name:"b")`)
	reads(t, "{}", "dict")
	reads(t, `{"a": 1}`, `dict(text:"a" int=1)`)
	reads(t, "{a: b, c + d: {}}", `dict(name:"a" name:"b" binary:"+"(name:"c" name:"d") dict)`)
	reads(t, "[a for b in c]", `each:"b"(name:"a" name:"c")`)
	reads(t, "[a for b in c if d]", `each:"b"(name:"a" name:"c" name:"d")`)
	reads(t, "[a in b for c in d in e if f in g]", `each:"c"(binary:"in"(name:"a" name:"b") binary:"in"(name:"d" name:"e") binary:"in"(name:"f" name:"g"))`)
	reads(t, "[[a for b in c] for d in [e]]", `each:"d"(each:"b"(name:"a" name:"c") list(name:"e"))`)
	reads(t, `"("`, `text:"("`)
}

func TestG1Posts(t *testing.T) {
	reads(t, "f()", `call(name:"f")`)
	reads(t, "f(1)", `call(name:"f" int=1)`)
	reads(t, "f(1, a, b == c)", `call(name:"f" int=1 name:"a" binary:"=="(name:"b" name:"c"))`)
	reads(t, "f(a=1)", `call<a>(name:"f" int=1)`)
	reads(t, "f(1, b=2, a=c)", `call<b a>(name:"f" int=1 int=2 name:"c")`)
	reads(t, "f(a=g(a=1), b=[a])", `call<a b>(name:"f" call<a>(name:"g" int=1) list(name:"a"))`)
	reads(t, "f(a, a=a)", `call<a>(name:"f" name:"a" name:"a")`)
	reads(t, "f(f=1)", `call<f>(name:"f" int=1)`)
	reads(t, "a[0]", `index(name:"a" int=0)`)
	reads(t, "a[-1][b or c]", `index(index(name:"a" minus(int=1)) binary:"or"(name:"b" name:"c"))`)
	reads(t, "a[0](1)[2]()", `call(index(call(index(name:"a" int=0) int=1) int=2))`)
	reads(t, "a (b) [c]", `index(call(name:"a" name:"b") name:"c")`)
	reads(t, `1()["a"]`, `index(call(int=1) text:"a")`)
	reads(t, "[1][0]", "index(list(int=1) int=0)")
	reads(t, `{}["a"]`, `index(dict text:"a")`)
	reads(t, "None()", "call(none)")
	reads(t, "(a + b)(c)", `call(binary:"+"(name:"a" name:"b") name:"c")`)
	reads(t, "-a[0]", `minus(index(name:"a" int=0))`)
	reads(t, "-a()", `minus(call(name:"a"))`)
	reads(t, "(-a)[0]", `index(minus(name:"a") int=0)`)
	reads(t, "not a()", `not(call(name:"a"))`)
}

func TestG1Signs(t *testing.T) {
	for _, sign := range strings.Fields("or and == != < <= in + - * // %") {
		reads(t, "a "+sign+" b", fmt.Sprintf(`binary:%q(name:"a" name:"b")`, sign))
	}
	// Those that are joined from the left, each class after the ones that bind less.
	classes := []string{"or", "and", "== != < <= in", "+ -", "* // %"}
	for i, low := range classes {
		for _, a := range strings.Fields(low) {
			for _, b := range strings.Fields(low) {
				if i != 2 {
					reads(t, "a "+a+" b "+b+" c", fmt.Sprintf(`binary:%q(binary:%q(name:"a" name:"b") name:"c")`, b, a))
				}
			}
			for _, high := range classes[i+1:] {
				for _, b := range strings.Fields(high) {
					reads(t, "a "+a+" b "+b+" c", fmt.Sprintf(`binary:%q(name:"a" binary:%q(name:"b" name:"c"))`, a, b))
					reads(t, "a "+b+" b "+a+" c", fmt.Sprintf(`binary:%q(binary:%q(name:"a" name:"b") name:"c")`, a, b))
				}
			}
		}
	}
	reads(t, "a - b - c - d", `binary:"-"(binary:"-"(binary:"-"(name:"a" name:"b") name:"c") name:"d")`)
	reads(t, "a - (b - c)", `binary:"-"(name:"a" binary:"-"(name:"b" name:"c"))`)
	reads(t, "(a < b) < c", `binary:"<"(binary:"<"(name:"a" name:"b") name:"c")`)
}

func TestG1NotAndMinus(t *testing.T) {
	reads(t, "not a", `not(name:"a")`)
	reads(t, "not not a", `not(not(name:"a"))`)
	reads(t, "not a == b", `not(binary:"=="(name:"a" name:"b"))`)
	reads(t, "not a and not b or c", `binary:"or"(binary:"and"(not(name:"a") not(name:"b")) name:"c")`)
	reads(t, "a == (not b)", `binary:"=="(name:"a" not(name:"b"))`)
	reads(t, "-a", `minus(name:"a")`)
	reads(t, "--a", `minus(minus(name:"a"))`)
	reads(t, "a--b", `binary:"-"(name:"a" minus(name:"b"))`)
	reads(t, "-a - -b * -c", `binary:"-"(minus(name:"a") binary:"*"(minus(name:"b") minus(name:"c")))`)
	reads(t, "-a * b", `binary:"*"(minus(name:"a") name:"b")`)
	reads(t, "-(a * b)", `minus(binary:"*"(name:"a" name:"b"))`)
	reads(t, "-9007199254740991", "minus(int=9007199254740991)")
	reads(t, "not -a", `not(minus(name:"a"))`)
}

func TestG2FaultsOfSplit(t *testing.T) {
	faultsAt(t, api.ErrForm, "a = $$b")
	faultsAt(t, api.ErrForm, "a = b$)")
	faultsAt(t, api.ErrForm, "f(a$")
	faultsAt(t, api.ErrForm, `a = "b$`)
	faultsAt(t, api.ErrState, "if a:\n  b\n $c")
	faultsAt(t, api.ErrRange, "a = $01")
	faultsAt(t, api.ErrMany, "$"+strings.Repeat("#", api.MaxSource+1))
	faultsAt(t, api.ErrMany, strings.Repeat("(", api.MaxNest)+"$(")
	// They come ahead of those of Parse, wherever they are.
	faultsAt(t, api.ErrRange, "= pass\nif $00")
	faultsAt(t, api.ErrForm, "return\n$?")
	parses(t, "#"+strings.Repeat(" ", api.MaxSource-1), "")
}

// cannotGoOn are sources that cannot go on at the $, one a line; ~ is a line feed.
const cannotGoOn = `
$= 1
1 $= 2
a = b $= c
a() $= 1
a[0] $= 1
(a $= 1)
[a $= 1]
True $= 1
a = $= 1
pass $pass
pass $1
a $b
a $1
a $"b"
a $True
a $pass
a $not b
a = 1 $if b
a $else
a$: b
a$, b
$, a
$else:~ pass
$in a
$and a
$or a
$* a
$+ a
$// a
$% a
$: a
a = $pass
a = $return
a = $load("x", "y")
a = $def
a = $for
a = $if
a = $else
f($load)
a or $or b
a or $and b
a and $in b
a == $== b
a + $* b
a * $+ b
not $and a
- $+ a
a + $not b
- $not b
a == $not b
a * $not b
a < b $< c
a == b $!= c
a in b $in c
a <= b $== c
not a == b $== c
($)
(a $b)
(a$, b)
(a $for b in c)
(a$]
[1, $]
[$, 1]
[a,$, b]
[a $b]
[a$: b]
[a$)
[a $if b]
{1$}
{1: $}
{1: 2, $}
{1$, 2}
{$: 2}
{$, 1: 2}
{1: 2 $3: 4}
{1: 2$: 3}
{1: 2$]
{a $for b in c}
{a: b $for c in d}
[a for $]
[a for $1 in b]
[a for $(b) in c]
[a for b$() in c]
[a for b $]
[a for b $= c]
[a for b in $]
[a for b in c$, d]
[a for b in c $for d in e]
[a for b in c if $]
[a for b in c if d $if e]
[a for b in c if d$, e]
[a for b in c$)
[a, b $for c in d]
[$for b in c]
a[$]
a[1$, 2]
a[1$: 2]
a[1$)
a[b $for c in d]
a[$=1]
a[b$=1]
f(a, $)
f($, a)
f(a,$, b)
f(a $b)
f(a$]
f(a $for b in c)
f(a$: b)
f(1$=2)
f((a)$=2)
f("a"$=1)
f(a()$=1)
f(-a$=1)
f(a + b$=1)
f($=1)
f(a=$)
f(a=b $c)
f(a=b$=c)
f(a=1 $b=2)
f(a=1, $)
f(a=1,$, b=1)
f(a=1, $b)
f(a=1, $a)
f(a=1, $2)
f(a=1, $"b")
f(a=1, $a + b)
f(a=1, $(b)=2)
f(a=1, $-b)
f(a=1, $not b)
f(a=1, $b == 2)
if a$~ pass
if $:~ pass
if a: $pass
if a $b:~ pass
if a $= 1:~ pass
if a $if b:~ pass
if a:~$pass
if a:~ pass~else $a:~ pass
if a:~ pass~else: $pass
if a:~ pass~else$~ pass
if a:~ pass~else:~$pass
if a:~ pass~else $if b:~ pass
if a:~ pass~pass~$else:~ pass
if a:~ pass~else:~ pass~$else:~ pass
if a:~ pass~ $else:~ pass
for i in a:~ pass~$else:~ pass
for $:~ pass
for $1 in a:~ pass
for $in in a:~ pass
for $(i) in a:~ pass
for i$:~ pass
for i$, j in a:~ pass
for i$[0] in a:~ pass
for i $== a:~ pass
for i in $:~ pass
for i in a: $pass
for i in a$~ pass
for i in a:~$pass
def $:~ pass
def $(a):~ pass
def $if():~ pass
def $"f"():~ pass
def f$:~ pass
def f$[a]:~ pass
def f($1):~ pass
def f($"a"):~ pass
def f($if):~ pass
def f($, a):~ pass
def f(a, $):~ pass
def f(a$=1):~ pass
def f(a $b):~ pass
def f(a$]:~ pass
def f(a)$~ pass
def f(a): $pass
def f(a)$(b):~ pass
def f(a) $in a:~ pass
def f(a):~$pass
load $= 1
load $a
load$~
load$["x"]
load($)
load($x, "y")
load($1, "y")
load($("x"), "y")
load("x"$)
load("x"$]
load("x"$: "y")
load("x" $"y")
load("x", $)
load("x", $y)
load("x", $y="y")
load("x", $1)
load("x", $("y"))
load("x", "y", $)
load("x", "y" $"z")
load("x", "y" $+ "z")
load("x", "y"$]
load("x", "y")$()
load("x", "y")$[0]
load("x", "y") $pass
def f():~ return $= 1
def f():~ return $pass
def f():~ return a $b
def f():~ return a $= 1
def f():~ return$, a
 $pass
  $a = 1~b = 2
pass~ $pass
if a:~ pass~  $pass
def f():~ return~  $pass
a = $
a = $~b
a =$~
a = # so$~
a +$
a = b or$
not$
-$
if$
if a$
if a:$
if a:~$
if a:~~# so~$
if a:~ pass~else:$
if a:~ pass~else:~  ~$
for$
for i$
for i in$
for i in a:~$
def$
def f$
def f():$
def f():~ if a:~$
def f():~ if a:~$b = 1
def f():~ if a:~ $b = 1
`

func TestG2CannotGoOn(t *testing.T) {
	for _, s := range strings.Split(strings.Trim(cannotGoOn, "\n"), "\n") {
		faultsAt(t, api.ErrForm, strings.ReplaceAll(s, "~", "\n"))
	}
}

func TestG2State(t *testing.T) {
	for _, s := range []string{
		"$return", "$return 1", "$return = 1", "if a:\n $return", "for i in a:\n pass\n $return i", "if a:\n pass\nelse:\n $return", "def f():\n return\n$return",
		"if a:\n $def f():\n  pass", "for i in a:\n $def", "def f():\n $def g():\n  pass", "def f():\n if a:\n  $def f(a, a):\n   pass", "if a:\n pass\nelse:\n $def f():\n  return",
		"if a:\n $load(\"x\", \"y\")", "for i in a:\n $load", "def f():\n $load()", "if a:\n pass\nelse:\n pass\n $load(\"x\", \"if\")",
	} {
		faultsAt(t, api.ErrState, s)
	}
}

func TestG2Twice(t *testing.T) {
	for _, s := range []string{
		"def f(a, $a):\n pass", "def f(a, b, c, $b, a):\n pass", "def f(a, $a b):\n pass", "def f(f, $f", "def f(a, $a)",
		"f(a=1, $a=2)", "f(1, a=1, b=2, c=3, $b=4, a=5)", "f(a=1, $a=)", "f(a, a=1, $a=1)", "f(g(a=1), a=2, b=g(a=1, $a=2))", "x = a[f(a=1)](b=1, $b=2)",
	} {
		if strings.Count(s, "(") > strings.Count(s, ")") {
			s += ")"
		}
		faultsAt(t, api.ErrTwice, s)
	}
	// What is no such name once more.
	faultsAt(t, api.ErrForm, "f(a=1, $a)")
	faultsAt(t, api.ErrForm, "f(a=1, $a == 1)")
	reads(t, "f(a=1)(a=2)", `call<a>(call<a>(name:"f" int=1) int=2)`)
}

func TestG2NamesOfLoad(t *testing.T) {
	for _, name := range []string{"", "if", "load", "None", "y z", " y", "y ", "1", "1y", "y-", "y.z", "y#", "#", "y\\n", "\\n", "\\\"y\\\"", "(y)", "y\xc3", "*", "y=1", "+"} {
		faultsAt(t, api.ErrForm, `load("x", $"`+name+`")`)
		faultsAt(t, api.ErrForm, `load("x", "y", $"`+name+`", "", a)`)
	}
	// The first text may be any.
	parses(t, `load("if", "y")`, `load:"if"<y>`)
	long := strings.Repeat("y", api.MaxSource-len(`load("x", "")`))
	parses(t, `load("x", "`+long+`")`, `load:"x"<`+long+`>`)
}

func TestG2Deep(t *testing.T) {
	// What comes ahead in one that is wrapped, where the next one begins, and what comes behind.
	for _, c := range [][3]string{
		{"(", "", ")"}, {"[", "", "]"}, {"[", "a, ", "]"}, {"f(", "", ")"}, {"f(", "a, b=", ")"}, {"f(a=", "", ")"}, {"a[", "", "]"}, {"{", "", ": 1}"}, {"{", "1: ", "}"},
		{"[", "", " for a in b]"}, {"[", "a for b in ", "]"}, {"[", "a for b in c if ", "]"}, {"-", "", ""}, {"not ", "", ""}, {"(", "a and ", " or b)"}, {"(", "1 + 2 * ", ")"},
	} {
		for _, ahead := range []string{"", "x = "} {
			// What is wrapped is within the whole, too.
			within := ahead + strings.Repeat(c[0]+c[1], api.MaxNest-1)
			behind := strings.Repeat(c[2], api.MaxNest-1)
			if _, f := syntax.Parse(within + "1" + behind); f.Err != api.OK {
				t.Errorf("Parse(%q): %v", within+"1"+behind, f)
			}
			faultsAt(t, api.ErrMany, within+c[0]+"$"+c[1]+"1"+c[2]+behind)
			faultsAt(t, api.ErrMany, within+c[0]+"$1 pass"+c[2]+behind)
		}
	}
	most := api.MaxNest
	for _, s := range []string{"a", "1", `""`, "None", "True", "False", "[]", "{}", "(1)", "-1", "not 1"} {
		faultsAt(t, api.ErrMany, strings.Repeat("(", most)+"$"+s+strings.Repeat(")", most))
		faultsAt(t, api.ErrMany, strings.Repeat("not ", most)+"$"+s)
	}
	faultsAt(t, api.ErrMany, strings.Repeat("-", most)+"$-1")
}

func TestG2DeepAndCannotGoOn(t *testing.T) {
	most := api.MaxNest
	for _, s := range []string{"in", "pass", "=", "+", ":", ",", "for"} {
		faultsAt(t, api.ErrForm, strings.Repeat("(", most)+"$"+s+strings.Repeat(")", most))
		faultsAt(t, api.ErrForm, strings.Repeat("not ", most)+"$"+s)
		faultsAt(t, api.ErrForm, strings.Repeat("-", most)+"$"+s)
	}
	faultsAt(t, api.ErrForm, strings.Repeat("(", most)+"$"+strings.Repeat(")", most))
	faultsAt(t, api.ErrForm, strings.Repeat("-", most)+"$")
	faultsAt(t, api.ErrForm, strings.Repeat("-", most)+"$not 1")
	// Nothing begins within a call of nothing, nor at a name with `=`, which is looked at first.
	call := strings.Repeat("f(", most-1) + "f()" + strings.Repeat(")", most-1)
	if _, f := syntax.Parse(call); f.Err != api.OK {
		t.Errorf("Parse(%q): %v", call, f)
	}
	faultsAt(t, api.ErrTwice, strings.Repeat("f(a=1, b=", most-2)+"f(a=1, $a=2)"+strings.Repeat(")", most-2))
	faultsAt(t, api.ErrMany, strings.Repeat("f(", most)+"a=$1"+strings.Repeat(")", most))
}

func TestG2DeepCounted(t *testing.T) {
	// Nine times three, and the whole.
	mixed := strings.Repeat("not -(", 9)
	closed := strings.Repeat(")", 9)
	for _, s := range []string{"not -1", "--1", "not not 1", "(-1)", "f(-1)", "-f(1)", "-a[1] + -b[1]", "not a == -1 and not -1", "[-1, not 1]"} {
		if _, f := syntax.Parse("x = " + mixed + s + closed); f.Err != api.OK {
			t.Errorf("Parse of %q in 28: %v", s, f)
		}
	}
	for _, s := range []string{"not --$1", "---$1", "not not not $1", "not not -$1", "(--$1)", "f(-a[$1])", "-f(-$1)", "-a[1] + -b[-$1]", "not a == -($-1)", "[[[$1]]]", "not f([$1])", "{1: -f($1)}"} {
		faultsAt(t, api.ErrMany, "x = "+mixed+s+closed)
	}
	// What stands beside one another is not deep.
	many := 100
	for _, s := range []string{" and not a", " or -a", " - -a", "(1)", "[1]", " * (a)", " + [a]"} {
		if _, f := syntax.Parse("x = a" + strings.Repeat(s, many)); f.Err != api.OK {
			t.Errorf("Parse of a and many %q: %v", s, f)
		}
	}
}

func TestG2FirstFromTheLeft(t *testing.T) {
	faultsAt(t, api.ErrState, "$return\na = = 1")
	faultsAt(t, api.ErrForm, "a = $= 1\nreturn")
	faultsAt(t, api.ErrTwice, "def f(a, $a):\n def")
	faultsAt(t, api.ErrState, "def f(a):\n $def f(a, a):\n  pass")
	faultsAt(t, api.ErrTwice, "f(a=1, $a=2, 3)")
	faultsAt(t, api.ErrForm, "f(a=1, $3, a=2)")
	faultsAt(t, api.ErrForm, `load("x", $"if", )`)
	faultsAt(t, api.ErrForm, `load($, "if")`)
	faultsAt(t, api.ErrForm, "f(a=1, $"+strings.Repeat("-", 40)+"1)")
	faultsAt(t, api.ErrMany, strings.Repeat("not ", api.MaxNest)+"$f(a=1, a=2)")
}

func TestG3Statements(t *testing.T) {
	writes(t, "", "")
	writes(t, "# so\n\n", "")
	writes(t, "pass", "pass\n")
	writes(t, "pass # so\n\n\npass", "pass\npass\n")
	writes(t, "a=1", "a = 1\n")
	writes(t, "a   =\"#\"# so", "a = \"#\"\n")
	writes(t, "a==1", "a == 1\n")
	writes(t, "load(\"x\",\"y\")", "load(\"x\", \"y\")\n")
	writes(t, "load ( \"\\n\\\\\" , \"y\" ,\n\"y\" )", "load(\"\\n\\\\\", \"y\", \"y\")\n")
	writes(t, "def f ( ) :\n return", "def f():\n    return None\n")
	writes(t, "def f(a):\n  return(a)", "def f(a):\n    return a\n")
	writes(t, "def f(a,b , c):\n                  pass\npass", "def f(a, b, c):\n    pass\npass\n")
	writes(t, "if a :\n b\nelse :\n c", "if a:\n    b\nelse:\n    c\n")
	writes(t, "if(a):\n for i in(b):\n    if c:\n     pass\n    else:\n     d\n e\nf", "if a:\n    for i in b:\n        if c:\n            pass\n        else:\n            d\n    e\nf\n")
	writes(t, "for i in[1]:\n pass", "for i in [1]:\n    pass\n")
	writes(t, "if not a:\n pass", "if not a:\n    pass\n")
}

func TestG3Expressions(t *testing.T) {
	for _, c := range [][2]string{
		{"0", "0"}, {"9007199254740991", "9007199254740991"}, {`"a\t\n\\\"b"`, `"a\t\n\\\"b"`}, {"None", "None"}, {"True", "True"}, {"False", "False"},
		{"( ( a ) )", "a"}, {"[ ]", "[]"}, {"[ 1 ,2,( 3)]", "[1, 2, 3]"}, {"{ }", "{}"}, {"{ 1 :2,3:4 }", "{1: 2, 3: 4}"}, {"[1,\n\n# so\n2\n]", "[1, 2]"},
		{"[a  for b in(c)]", "[a for b in c]"}, {"[ (a+b) for b in c if(not d) ]", "[a + b for b in c if not d]"}, {"[[a]for b in{}if[c]]", "[[a] for b in {} if [c]]"},
		{"f ( )", "f()"}, {"f (1 , a = 2,b=-3 )", "f(1, a=2, b=-3)"}, {"f((a+b),c=(d or e))", "f(a + b, c=d or e)"}, {"f (a) (b) [c] [ d]", "f(a)(b)[c][d]"},
		{"a [ - 1 ]", "a[-1]"}, {"a[(b+c)]", "a[b + c]"}, {"[1] [0]", "[1][0]"}, {"{} (1)", "{}(1)"}, {`"a" [0]`, `"a"[0]`}, {"1 (2)", "1(2)"}, {"None ()", "None()"},
		{"- 1", "-1"}, {"- - 1", "-(-1)"}, {"not(a)", "not a"}, {"not not a", "not (not a)"}, {"not - a", "not (-a)"}, {"- (not a)", "-(not a)"},
		{"-a[0]", "-a[0]"}, {"(-a)[0]", "(-a)[0]"}, {"-f(-a)", "-f(-a)"}, {"(-f)(a)", "(-f)(a)"}, {"(not f)()", "(not f)()"}, {"(a+b)(c)", "(a + b)(c)"}, {"(a or b)[(c)]", "(a or b)[c]"}, {"-[-1][-2]", "-[-1][-2]"},
		{"a-b", "a - b"}, {"a- -b", "a - (-b)"}, {"a+b*c", "a + (b * c)"}, {"a*b+c", "(a * b) + c"}, {"a-b-c", "(a - b) - c"}, {"a-(b-c)", "a - (b - c)"}, {"-a+b", "(-a) + b"}, {"not a==b", "not (a == b)"}, {"(not a)==b", "(not a) == b"},
		{"a or b or c", "(a or b) or c"}, {"not a and b", "(not a) and b"}, {"a in[b]", "a in [b]"}, {"a//b%c", "(a // b) % c"}, {"a<=b", "a <= b"}, {"a!=(b)", "a != b"}, {"a<f(b)", "a < f(b)"},
		{"[-1,not a,b+c]", "[-1, not a, b + c]"}, {"{-1:not a}", "{-1: not a}"}, {"{a+b:c+d}", "{a + b: c + d}"}, {"-(1)", "-1"}, {"-(a)(b)", "-a(b)"}, {"not(a)(b)", "not a(b)"}, {"not [a]", "not [a]"}, {"-{}", "-{}"}, {"(a)+(b)", "a + b"},
	} {
		writes(t, c[0], c[1]+"\n")
		writes(t, "x="+c[0], "x = "+c[1]+"\n")
		writes(t, c[1], c[1]+"\n")
	}
}

func TestG3Quote(t *testing.T) {
	for _, c := range [][2]string{{"", `""`}, {"a b", `"a b"`}, {"\n\t\\\"", `"\n\t\\\""`}, {`\n`, `"\\n"`}, {"'", `"'"`}, {"\x00\r\x1f\x7f\xff", "\"\x00\r\x1f\x7f\xff\""}, {"\u00e9\n", "\"\u00e9\\n\""}, {"#", `"#"`}} {
		if q := syntax.Quote(c[0]); q != c[1] {
			t.Errorf("Quote(%q): %q, must be %q", c[0], q, c[1])
		}
	}
	for i := range 256 {
		s := string([]byte{byte(i)})
		want := strings.NewReplacer("\n", `\n`, "\t", `\t`, `\`, `\\`, `"`, `\"`).Replace(s)
		if q := syntax.Quote("a" + s + s); q != `"a`+want+want+`"` {
			t.Errorf("Quote of the byte %d: %q", i, q)
		}
	}
	long := strings.Repeat("\"a", 3000000)
	if q := syntax.Quote(long); len(q) != len(long)+len(long)/2+2 {
		t.Errorf("Quote of %d bytes has %d", len(long), len(q))
	}
}

// writtenDeep tells that Canon has room for most of something, and not for one more.
func writtenDeep(t *testing.T, most int, source func(n int) string) {
	t.Helper()
	for n := 1; n <= most+5; n++ {
		c, f := syntax.Canon(source(n))
		want := api.Fault{}
		if n > most {
			want.Err = api.ErrMany
		}
		if f != want || (c == "") != (n > most) {
			t.Errorf("Canon(%q): %q %v", source(n), c, f)
		}
		if _, f := syntax.Parse(source(n)); f.Err != api.OK {
			t.Errorf("Parse(%q): %v", source(n), f)
		}
	}
}

func TestG3TooDeep(t *testing.T) {
	// Each part but the first two stands in brackets with all ahead.
	writtenDeep(t, api.MaxNest, func(n int) string { return "a" + strings.Repeat(" + a", n) })
	writtenDeep(t, api.MaxNest, func(n int) string { return "if a" + strings.Repeat(" or a", n) + ":\n pass" })
	// Each has one within it, and brackets but for the last one.
	writtenDeep(t, api.MaxNest/2, func(n int) string { return "x = " + strings.Repeat("-", n) + "1" })
	writtenDeep(t, api.MaxNest/2, func(n int) string { return "x = " + strings.Repeat("not ", n) + "1" })
	writtenDeep(t, api.MaxNest-2, func(n int) string { return "[[" + "a" + strings.Repeat(" * a", n) + "]]" })
}

func TestG3TooLong(t *testing.T) {
	list := "[" + strings.Repeat("1,", 1997) + "1]"
	written := "[" + strings.Repeat("1, ", 1997) + "1]"
	writes(t, "aa="+list, "aa = "+written+"\n")
	if len(written) != api.MaxSource-len("aa = \n") {
		t.Fatal(len(written))
	}
	faults3 := func(s string) {
		t.Helper()
		if c, f := syntax.Canon(s); c != "" || f != (api.Fault{Err: api.ErrMany}) {
			t.Errorf("Canon(%.20q): %.20q %v", s, c, f)
		}
		if _, f := syntax.Parse(s); f.Err != api.OK {
			t.Errorf("Parse(%.20q): %v", s, f)
		}
	}
	faults3("aaa=" + list)
	faults3("if a:\n" + strings.Repeat(" a\n", 1500))
	writes(t, "if a:\n"+strings.Repeat(" a\n", 900), "if a:\n"+strings.Repeat("    a\n", 900))
}

// lists collects where each list of statements, and all in them, begins.
func lists(l []api.Stmt, found map[any]int) {
	if len(l) > 0 {
		found[&l[0]]++
	}
	var within func(e *api.Expr)
	within = func(e *api.Expr) {
		if len(e.Names) > 0 {
			found[&e.Names[0]]++
		}
		if len(e.Kids) > 0 {
			found[&e.Kids[0]]++
		}
		for i := range e.Kids {
			within(&e.Kids[i])
		}
	}
	for i := range l {
		if len(l[i].Names) > 0 {
			found[&l[i].Names[0]]++
		}
		within(&l[i].Expr)
		lists(l[i].Body, found)
		lists(l[i].Else, found)
	}
}

func TestP2P3AnswersAreNew(t *testing.T) {
	s := "load(\"x\", \"y\", \"z\")\ndef f(a, b):\n  if a + b * c:\n    return [a, {b: f(1, x=2, y=3)}]\n  else:\n    for i in a[0]:\n      x = -a and not b\nf()\nf()\n"
	first, _ := syntax.Parse(s)
	second, _ := syntax.Parse(s)
	found := map[any]int{}
	lists(first, found)
	lists(second, found)
	for _, n := range found {
		if n > 1 {
			t.Error("two lists share memory")
		}
	}
	was := shown(second)
	first[1].Names[0] = "changed"
	first[1].Body[0].Expr.Kids[0].Text = "changed"
	first[1].Body[0].Else[0].Body[0].Kind = api.StmtPass
	third, _ := syntax.Parse(s)
	if len(found) < 30 || shown(second) != was || shown(third) != was {
		t.Error("an answer changed", len(found))
	}
}
