package eval_test

import (
	"fmt"
	"strings"
	"testing"

	"foundry/api"
	"foundry/eval"
)

func TestH1True(t *testing.T) {
	for _, s := range []string{"None", "False", "0", `""`, "[]", "{}", "-0", "1 - 1", `str("")`, "range(0)", "1 == 2"} {
		is(t, "not "+s, "True")
		is(t, s+` or "other"`, "other")
		comes(t, "if "+s+":\n x = 1\nelse:\n x = 2", "x=2", run(tree("main", s), 99).burnt+2)
	}
	for _, s := range []string{"True", "1", "-1", `"a"`, `" "`, `"0"`, "[0]", "[[]]", `{"": 0}`, "len", "rule", "9007199254740991"} {
		is(t, "not "+s, "False")
		is(t, s+` and "other"`, "other")
		comes(t, "if "+s+":\n x = 1\nelse:\n x = 2", "x=1", run(tree("main", s), 99).burnt+2)
	}
	comes(t, "def f():\n pass\nx = not f", "x=False", 4)
}

func TestH2FuelOfStatements(t *testing.T) {
	comes(t, "", "", 0)
	comes(t, "# so\n\n", "", 0)
	comes(t, "pass", "", 1)
	comes(t, "pass\npass\npass", "", 3)
	comes(t, "1", "", 2)
	comes(t, "x = 1", "x=1", 2)
	comes(t, "def f(a, b):\n return len(a) + len(b)", "", 1)
	comes(t, "if 1:\n pass\n pass\nelse:\n x = 1", "", 2+2)
	comes(t, "if 0:\n pass\n pass\nelse:\n x = 1", "x=1", 2+2)
	comes(t, "if 0:\n pass", "", 2)
	comes(t, "for i in []:\n pass", "", 2)
	comes(t, "for i in [1, 2, 3]:\n pass", "i=3", 5+3*2)
	comes(t, "def f():\n pass\n pass\nx = f()", "x=None", 1+3+2)
	comes(t, "def f():\n return\n pass\nx = f()", "x=None", 1+3+2)
	comes(t, "def f():\n return 5\n pass\nx = f()", "x=5", 1+3+2)
	comes(t, `load("lib", "a")`, "a=1", 1+2, "lib", "a = 1")
	comes(t, "load(\"lib\", \"a\")\nload(\"lib\", \"a\", \"a\")", "a=1", 1+2+1, "lib", "a = 1")
}

func TestH2FuelOfExpressions(t *testing.T) {
	comes(t, "None", "", 2)
	comes(t, "len", "", 2)
	comes(t, "[1, [2, 3]]", "", 1+5)
	comes(t, `{"a": 1, "b": {}}`, "", 1+5)
	comes(t, "-(1 + 2)", "", 1+4)
	comes(t, "not not 1", "", 1+3)
	comes(t, "[1, 2][0]", "", 1+5)
	comes(t, "1 or 2", "", 1+2)
	comes(t, "0 or 2", "", 1+3)
	comes(t, "1 and 2", "", 1+3)
	comes(t, "0 and 2", "", 1+2)
	comes(t, "0 and 1 or 2 and 3", "", 1+2+2+2)
	comes(t, "[i for i in [1, 2]]", "i=2", 1+4+2*2)
	comes(t, "[i for i in []]", "", 1+2)
	comes(t, "[i for i in [1, 2, 3] if i < 2]", "i=3", 1+5+3*4+1)
	comes(t, "len([1, 2])", "", 1+5)
	comes(t, "1 < 2", "", 1+3)
	comes(t, "range(1000)", "", 1+3)
	comes(t, "sorted([2, 1])", "", 1+5)
	comes(t, `join("a", ["b"])`, "", 1+5)
	comes(t, `glob(["*"])`, "", 1+4)
	comes(t, `rule(name="a")`, "", 1+3)
}

func TestH2FuelOfCompared(t *testing.T) {
	comes(t, "1 == 1", "", 1+3+1)
	comes(t, "1 != 2", "", 1+3+1)
	comes(t, "[1, 2, 3] == [1, 2, 3]", "", 1+9+4)
	comes(t, "[1, 2, 3] == [1, 4, 3]", "", 1+9+3)
	comes(t, "[1, 2, 3] == [1, 2]", "", 1+8+1)
	comes(t, "[[1], [2]] == [[1], [2]]", "", 1+11+5)
	comes(t, `{"a": 1, "b": 2} == {"a": 1, "b": 2}`, "", 1+11+3)
	comes(t, `{"a": 1, "b": 2} == {"a": 1, "c": 2}`, "", 1+11+2)
	comes(t, `{"a": 1, "b": 2} == {"a": 3, "b": 2}`, "", 1+11+2)
	comes(t, `{"a": 1} == {"b": 1}`, "", 1+7+1)
	comes(t, "len == 1", "", 1+3+1)
	comes(t, "1 in [2, 3, 1, 1]", "", 1+7+3)
	comes(t, "4 in [2, 3, 1]", "", 1+6+3)
	comes(t, "[1] in [[2], [1]]", "", 1+8+2*2)
	comes(t, "1 in []", "", 1+3)
	comes(t, `"a" in "bab"`, "", 1+3)
	comes(t, `"a" in {"b": 1, "a": 2}`, "", 1+7)
}

func TestH2FuelOfWritten(t *testing.T) {
	comes(t, "str(1)", "", 1+3+1)
	comes(t, `str("a")`, "", 1+3+1)
	comes(t, "str([])", "", 1+3+1)
	comes(t, "str([1, [2]])", "", 1+6+4)
	comes(t, `str({"a": 1, "b": [2]})`, "", 1+8+4)
	comes(t, "x = [1, 2]\nx = str(x)", "x=[1, 2]", 4+4+3)
	// What names have at the end burns nothing.
	comes(t, "x = [1, [2, 3]]", "x=[1, [2, 3]]", 1+5)
}

func TestH2FuelIsWhatEnds(t *testing.T) {
	// A statement, three expressions and a value that is compared; a statement, five expressions and a value that is written.
	fails(t, "x = 1 == 1\nfail(str(x))", api.ErrFail, 5+7)
	for _, s := range []string{
		"for a in range(1000):\n for b in range(1000):\n  for c in range(1000):\n   pass",
		"x = [[[1 for c in range(1000)] for b in range(1000)] for a in range(1000)]",
	} {
		if o := run(tree("main", s), api.MaxFuel); !same(o, outcome{err: api.ErrFuel}) {
			t.Errorf("%q: %v", s, o)
		}
	}
	// What has very many values in it is compared no longer than there is fuel, and written no longer than there is room; at the end it is left out.
	double := "x = []\nfor a in range(30):\n x = [x, x]\n"
	for _, s := range []string{"x == x", "x != x", "[x] in [[x]]"} {
		if o := run(tree("main", double+s), api.MaxFuel); !same(o, outcome{err: api.ErrFuel}) {
			t.Errorf("%q: %v", s, o.err)
		}
	}
	if o := run(tree("main", double+"str(x)"), api.MaxFuel); !same(o, outcome{err: api.ErrMany}) {
		t.Errorf("it is written: %v", o.err)
	}
	comes(t, double, "a=29", 2+4+30*5)
}

func TestH3Names(t *testing.T) {
	fails(t, "x = a", api.ErrNone, 2)
	fails(t, "x = x", api.ErrNone, 2)
	fails(t, "x = Len", api.ErrNone, 2)
	comes(t, "x = 1\nx = x + x", "x=2", 2+4)
	comes(t, "len = 5\nx = len", "len=5; x=5", 2+2)
	comes(t, "def len(a):\n return 7\nx = len(1)", "x=7", 1+4+2)
	comes(t, "len = 5\ndef f():\n return len\nx = f()", "len=5; x=5", 2+1+3+2)
	comes(t, "x = 1\ndef f(x):\n return x\ny = f(2)", "x=1; y=2", 2+1+4+2)
	comes(t, "x = 1\ndef f():\n y = x\n x = 2\n return [x, y]\nz = f()", "x=1; z=[2, 1]", 2+1+3+2+2+4)
	comes(t, "def f(len):\n return len\nx = f(3)\ny = len([])", "x=3; y=0", 1+4+2+4)
	fails(t, "def f():\n y = 1\nf()\nx = y", api.ErrNone, 1+3+2+2)
	fails(t, "def f(a):\n pass\nf(1)\nx = a", api.ErrNone, 1+4+1+2)
	fails(t, "def g():\n return y\ndef f():\n y = 1\n return g()\nf()", api.ErrNone, 2+3+2+3+2)
}

func TestH3Lists(t *testing.T) {
	is(t, "[]", "[]")
	is(t, `[1, "a", [None], {"k": [True]}]`, `[1, "a", [None], {"k": [True]}]`)
	fails(t, "[1, a, fail(\"\")]", api.ErrNone, 1+3)
	ones := func(n int, last string) string { return "x = [" + strings.Repeat("1,", n) + last + "]" }
	comes(t, ones(999, "1"), "x=["+strings.Repeat("1, ", 999)+"1]", 1+1+1000)
	fails(t, ones(1000, "1"), api.ErrMany, 1+1+1001)
	// When the one too many has been reckoned, not before and not later.
	fails(t, ones(1000, "a"), api.ErrNone, 1+1+1001)
	fails(t, ones(1001, "a"), api.ErrMany, 1+1+1001)
	fails(t, ones(1000, "(1 + a)"), api.ErrNone, 1+1+1003)
}

func TestH3Dictionaries(t *testing.T) {
	is(t, "{}", "{}")
	is(t, `{"b": 1, "a": {"": None}}`, `{"b": 1, "a": {"": None}}`)
	is(t, `{"a" + "b": 1 + 2}`, `{"ab": 3}`)
	for _, key := range []string{"1", "None", "True", "[]", "{}", "len", `["a"]`} {
		n := 3
		if key == `["a"]` {
			n = 4
		}
		// A key is looked at before what it has.
		fails(t, "x = {"+key+": a}", api.ErrType, n)
		fails(t, `x = {"a": 1, `+key+": a}", api.ErrType, n+2)
	}
	fails(t, `x = {"a": 1, "b": 2, "a": b}`, api.ErrTwice, 1+1+5)
	fails(t, `x = {"": 1, "": 1}`, api.ErrTwice, 1+1+3)
	fails(t, `x = {"a": a, "a": 1}`, api.ErrNone, 1+1+2)
	fails(t, `x = {a: 1}`, api.ErrNone, 1+1+1)
}

func TestH3Each(t *testing.T) {
	comes(t, "x = [i * i for i in [1, 2, 3]]", "i=3; x=[1, 4, 9]", 1+5+3*4)
	comes(t, `x = [k + "!" for k in {"b": 1, "a": 2}]`, `k=a; x=["b!", "a!"]`, 1+6+2*4)
	comes(t, "x = [i for i in [0, 1, 2, 0] if i]", "i=0; x=[1, 2]", 1+6+4*2+2)
	comes(t, "x = [1 for i in [1, 2] if 0]", "i=2; x=[]", 1+4+2*2)
	comes(t, "i = 7\nx = [i for i in []]", "i=7; x=[]", 2+3)
	comes(t, "i = 7\nx = [i for i in [i, i + 1]]", "i=8; x=[7, 8]", 2+7+2*2)
	comes(t, "x = [[j for j in i] for i in [[1], [2, 3]]]", "i=[2, 3]; j=3; x=[[1], [2, 3]]", 1+7+2*3+3*2)
	// What comes first is what it is made of; the condition comes ahead of what is made.
	fails(t, "x = [a for i in b]", api.ErrNone, 1+2)
	fails(t, "x = [1 // 0 for i in [1] if a]", api.ErrNone, 1+3+2)
	comes(t, "x = [1 // 0 for i in [1] if i == 2]", "i=1; x=[]", 1+3+1+3+1)
	for _, s := range []string{"1", `"abc"`, "None", "True", "len"} {
		fails(t, "x = [a for i in "+s+"]", api.ErrType, 3)
	}
	comes(t, "i = 1\ndef f():\n x = [i for i in [5]]\n return i\ny = f()", "i=1; y=5", 2+1+3+4+2+2)
}

func TestH3OrAndNot(t *testing.T) {
	is(t, "1 or a", "1")
	is(t, "0 or []", "[]")
	is(t, "0 and a", "0")
	is(t, `"" and a`, "")
	is(t, "1 and []", "[]")
	is(t, "[] or 0 or None or 5 or a", "5")
	is(t, "1 and 2 and 0 and a", "0")
	is(t, "not 1 == 2", "True")
	is(t, "not not 5", "True")
	wrong(t, "not a", api.ErrNone)
	wrong(t, "0 or a", api.ErrNone)
	wrong(t, "1 and a", api.ErrNone)
	wrong(t, "a or 1", api.ErrNone)
}

func TestH3Same(t *testing.T) {
	values := []string{"None", "True", "False", "0", "1", "-1", `""`, `"1"`, `"a"`, `"A"`, "[]", "[1]", "[1, 1]", "[[]]", `["a"]`, "{}", `{"a": 1}`, `{"a": 1, "b": 1}`, `{"b": 1, "a": 1}`, `{"a": []}`, `{"b": 1}`}
	for i, a := range values {
		for j, b := range values {
			want := map[bool]string{true: "True", false: "False"}
			is(t, a+" == "+b, want[i == j])
			is(t, a+" != "+b, want[i != j])
			is(t, "["+a+"] == ["+b+"]", want[i == j])
			is(t, `{"k": `+a+`} != {"k": `+b+"}", want[i != j])
			is(t, a+" in [len, "+b+"]", want[i == j])
		}
		is(t, a+" == len", "False")
		is(t, "len != "+a, "True")
	}
	comes(t, "def f():\n pass\nx = f == 1\ny = [f] == [1]\nz = [f] == []\nw = [f, 1] == [f]", "w=False; x=False; y=False; z=False", 1+5+8+6+8)
}

func TestH3SameFunctions(t *testing.T) {
	fails(t, "x = len == len", api.ErrType, 1+3+1)
	fails(t, "x = len != str", api.ErrType, 1+3+1)
	fails(t, "def f():\n pass\nx = f == f", api.ErrType, 1+4+1)
	fails(t, "x = [1, len] == [1, len]", api.ErrType, 1+7+3)
	fails(t, `x = {"a": len} == {"a": str}`, api.ErrType, 1+7+2)
	fails(t, "x = len in [1, len]", api.ErrType, 1+5+2)
	// It is met as one compares: not behind what is not the same.
	is(t, "[1, len] == [2, len]", "False")
	is(t, "[len, 1] == [len]", "False")
	is(t, "[len] == [[len]]", "False")
	is(t, `{"a": len} == {"b": len}`, "False")
	is(t, `{"a": 1, "b": len} == {"a": 2, "b": len}`, "False")
	wrong(t, `{"a": len, "b": 1} == {"a": len, "c": 1}`, api.ErrType)
	wrong(t, "[len, 1] == [len, 2]", api.ErrType)
	is(t, "1 in [1, len]", "True")
	is(t, "len in [1, None]", "False")
	is(t, "len in []", "False")
	is(t, "[len] == {}", "False")
}

func TestH3Less(t *testing.T) {
	rising := [][]string{{"-9007199254740991", "-2", "-1", "0", "1", "10", "9007199254740991"}, {`""`, `"A"`, `"a"`, `"a "`, `"aa"`, `"b"`, "\"\xc3\"", "\"\xff\""}}
	want := map[bool]string{true: "True", false: "False"}
	for _, l := range rising {
		for i, a := range l {
			for j, b := range l {
				is(t, a+" < "+b, want[i < j])
				is(t, a+" <= "+b, want[i <= j])
			}
		}
	}
	others := []string{"1", `"a"`, "None", "True", "[1]", "{}", "len"}
	for i, a := range others {
		for j, b := range others {
			if i != j || i > 1 {
				wrong(t, a+" < "+b, api.ErrType)
				wrong(t, a+" <= "+b, api.ErrType)
			}
		}
	}
	fails(t, "x = [] < a", api.ErrNone, 1+3)
}

func TestH3In(t *testing.T) {
	is(t, `"" in ""`, "True")
	is(t, `"" in "a"`, "True")
	is(t, `"bc" in "abcd"`, "True")
	is(t, `"ac" in "abcd"`, "False")
	is(t, `"abc" in "ab"`, "False")
	is(t, `"a" in {"b": 1, "a": 0}`, "True")
	is(t, `"c" in {"b": "c", "a": 0}`, "False")
	is(t, `"" in {}`, "False")
	is(t, "2 in [1, 2]", "True")
	is(t, "True in [1, 2]", "False")
	is(t, "[] in [1, []]", "True")
	is(t, `"a" in ["ab"]`, "False")
	is(t, "len in [1]", "False")
	for _, s := range []string{`1 in "1"`, `None in "None"`, `["a"] in "a"`, `1 in {"1": 1}`, "[] in {}", `len in {"len": 1}`, "1 in 1", `"a" in 1`, `"a" in None`, `"a" in True`, `"len" in len`} {
		wrong(t, s, api.ErrType)
	}
}

func TestH3Plus(t *testing.T) {
	is(t, "1 + 2", "3")
	is(t, "-1 + 1", "0")
	is(t, `"a" + "b" + ""`, "ab")
	is(t, "[1] + [] + [2, [3]]", "[1, 2, [3]]")
	comes(t, "x = [1]\ny = x + [2]\nz = x + [3]", "x=[1]; y=[1, 2]; z=[1, 3]", 3+5+5)
	others := []string{"1", `"a"`, "[1]", "None", "True", "{}", "len"}
	for i, a := range others {
		for j, b := range others {
			if i != j || i > 2 {
				wrong(t, a+" + "+b, api.ErrType)
			}
			if i != 0 || j != 0 {
				for _, sign := range []string{"-", "*", "//", "%"} {
					wrong(t, a+" "+sign+" "+b, api.ErrType)
				}
			}
		}
		if i != 0 {
			wrong(t, "-"+a, api.ErrType)
		}
	}
	wrong(t, `"a" // 0`, api.ErrType)
	wrong(t, `0 % "a"`, api.ErrType)
	fails(t, "x = 1 + [a]", api.ErrNone, 1+4)
}

func TestH3Ints(t *testing.T) {
	is(t, "7 - 10", "-3")
	is(t, "-3 * 7", "-21")
	is(t, "-3 * -7", "21")
	is(t, "-0", "0")
	is(t, "- -5", "5")
	is(t, "0 * 9007199254740991", "0")
	is(t, "9007199254740991 * 0", "0")
	for a := -9; a <= 9; a++ {
		for b := -4; b <= 4; b++ {
			if b == 0 {
				wrong(t, fmt.Sprintf("%d // %d", a, b), api.ErrRange)
				wrong(t, fmt.Sprintf("%d %% %d", a, b), api.ErrRange)
				continue
			}
			// The greatest of which b times is not above a; for b below 0 as for both turned round.
			q := -100
			for b*(q+1) <= a && b > 0 || b*(q+1) >= a && b < 0 {
				q++
			}
			is(t, fmt.Sprintf("%d // %d", a, b), fmt.Sprint(q))
			is(t, fmt.Sprintf("%d %% %d", a, b), fmt.Sprint(a-b*q))
		}
	}
	fails(t, "x = 1 // 0", api.ErrRange, 1+3)
}

func TestH3GreatInts(t *testing.T) {
	const most = "9007199254740991"
	for s, want := range map[string]string{
		most + " + 0": most, "9007199254740990 + 1": most, "-" + most + " - 0": "-" + most, "-9007199254740990 - 1": "-" + most, "-" + most: "-" + most, most + " - " + most: "0",
		most + " * 1": most, most + " * -1": "-" + most, "-1 * -" + most: most, "94906265 * 94906265": "9007199136250225", "3002399751580330 * 3": "9007199254740990", "-3 * 3002399751580330": "-9007199254740990",
		most + " // 1": most, most + " // -1": "-" + most, "-" + most + " // -1": most, most + " // " + most: "1", "1 // -" + most: "-1", "-1 % " + most: "9007199254740990", "1 % -" + most: "-9007199254740990", most + " % 2": "1",
	} {
		is(t, s, want)
	}
	for _, s := range []string{
		most + " + 1", "1 + " + most, "-" + most + " - 1", "-" + most + " + -1", most + " - -1", most + " + " + most, "-" + most + " - " + most,
		most + " * 2", most + " * -2", "-2 * " + most, "94906266 * 94906266", "94906266 * -94906266", "3002399751580331 * 3", "3 * -3002399751580331", most + " * " + most, "-" + most + " * -" + most, "4294967296 * 4294967296", "6074001000 * 6074001000",
	} {
		wrong(t, s, api.ErrRange)
	}
}

func TestH3LongTextsAndLists(t *testing.T) {
	is(t, "len("+long(api.MaxText)+")", "100000")
	is(t, "len("+long(99999)+` + "b")`, "100000")
	wrong(t, long(api.MaxText)+` + "b"`, api.ErrMany)
	wrong(t, `"b" + (`+long(api.MaxText)+")", api.ErrMany)
	is(t, "len("+long(api.MaxText)+` + "")`, "100000")
	is(t, "len(range(1000) + [])", "1000")
	is(t, "len(range(999) + [1])", "1000")
	wrong(t, "range(1000) + [1]", api.ErrMany)
	wrong(t, "[1] + range(1000)", api.ErrMany)
	wrong(t, "range(501) + range(500)", api.ErrMany)
	wrong(t, "range(1000) + 1", api.ErrType)
}

func TestH3Index(t *testing.T) {
	for i, c := range []string{"a", "b", "c"} {
		for _, at := range []int{i, i - 3} {
			is(t, fmt.Sprintf(`"abc"[%d]`, at), c)
			is(t, fmt.Sprintf(`["a", "b", "c"][%d]`, at), c)
		}
	}
	is(t, "\"\xc3\xa9\"[1]", "\xa9")
	is(t, `[[1, 2], [3]][0][1]`, "2")
	is(t, `{"a": 1, "b": [2]}["b"]`, "[2]")
	is(t, `{"": 1}[""]`, "1")
	for _, s := range []string{`"abc"[3]`, `"abc"[-4]`, `""[0]`, `""[-1]`, "[1][1]", "[1][-2]", "[][0]", "[][-1]", "[1][9007199254740991]", "[1][-9007199254740991]"} {
		wrong(t, s, api.ErrRange)
	}
	wrong(t, `{}["a"]`, api.ErrNone)
	wrong(t, `{"a": 1}["b"]`, api.ErrNone)
	for _, s := range []string{`"abc"["a"]`, `[1]["a"]`, "[1][None]", "[1][True]", `{"a": 1}[0]`, `{"a": 1}[None]`, `{"a": 1}[["a"]]`, "1[0]", "None[0]", "True[0]", `len["a"]`, "len[0]"} {
		wrong(t, s, api.ErrType)
	}
	fails(t, "x = a[b]", api.ErrNone, 1+2)
	fails(t, "x = [][a]", api.ErrNone, 1+3)
}

func TestH4HandedIn(t *testing.T) {
	const f = "def f(a, b, c):\n return [a, b, c]\n"
	const done = 1 + 5 // the def, and what is done when f is called
	for _, s := range []string{"1, 2, 3", "1, 2, c=3", "1, c=3, b=2", "a=1, b=2, c=3", "c=3, b=2, a=1"} {
		comes(t, f+"x = f("+s+")", "x=[1, 2, 3]", done+1+2+3)
	}
	fails(t, f+"f(1, 2, 3, 4)", api.ErrMany, 2+2+4)
	fails(t, f+"f(1, 2, 3, 4, d=5)", api.ErrMany, 2+2+5)
	fails(t, f+"f(1, 2, 3, 4, a=5)", api.ErrMany, 2+2+5)
	fails(t, f+"f(1, 2, 3, d=5)", api.ErrNone, 2+2+4)
	fails(t, f+"f(d=5, c=1)", api.ErrNone, 2+2+2)
	fails(t, f+"f(1, a=5)", api.ErrTwice, 2+2+2)
	// Name by name.
	fails(t, f+"f(1, d=5, a=5)", api.ErrNone, 2+2+3)
	fails(t, f+"f(1, a=5, d=5)", api.ErrTwice, 2+2+3)
	fails(t, f+"f(1, 2)", api.ErrMany, 2+2+2)
	fails(t, f+"f()", api.ErrMany, 2+2)
	fails(t, f+"f(a=1, c=3)", api.ErrMany, 2+2+2)
	fails(t, f+"f(1, 2, fail(\"\"))", api.ErrFail, 2+2+2+3)
	comes(t, "def f():\n pass\nx = f()", "x=None", 1+3+1)
	fails(t, "def f():\n pass\nf(1)", api.ErrMany, 1+4)
	fails(t, "def f():\n pass\nf(a=1)", api.ErrNone, 1+4)
}

func TestH4NoFunction(t *testing.T) {
	for _, s := range []string{"1", `"len"`, "None", "True", "[]", "{}"} {
		fails(t, s+"()", api.ErrType, 1+2)
		// What is handed in is reckoned ahead of that.
		fails(t, s+"(1, a=2)", api.ErrType, 1+4)
		fails(t, s+"(a)", api.ErrNone, 1+3)
	}
	fails(t, "a(b)", api.ErrNone, 1+2)
	is(t, "[len][0]([1])", "1")
	is(t, `{"a": str}["a"](1)`, "1")
	comes(t, "def f():\n return len\nx = f()([1])", "x=1", 1+1+3+2+2)
}

func TestH4Circle(t *testing.T) {
	fails(t, "def f():\n return f()\nf()", api.ErrCircle, 1+3+3)
	fails(t, "def f(a):\n return f(a)\nf(1)", api.ErrCircle, 1+4+4)
	fails(t, "def f():\n g()\ndef g():\n f()\nf()", api.ErrCircle, 2+3+3+3)
	fails(t, "def f(g):\n g(g)\nf(f)", api.ErrCircle, 1+4+4)
	// What is wrong with what is handed in comes ahead.
	fails(t, "def f(a):\n return f()\nf(1)", api.ErrMany, 1+4+3)
	fails(t, "def f(a):\n return f(b=1)\nf(1)", api.ErrNone, 1+4+4)
	fails(t, "def f(a):\n return f(1, a=1)\nf(1)", api.ErrTwice, 1+4+5)
	// When it has come to something, it is at work no more.
	comes(t, "def f(a):\n return a + 1\nx = f(f(f(1)))", "x=4", 1+1+7+3*4)
	comes(t, "def f():\n return 1\ndef f():\n return 2\nx = f()", "x=2", 2+3+2)
	comes(t, "def f():\n return 1\ng = f\ndef f():\n return g()\nx = f()", "x=1", 1+2+1+3+3+2)
}

func TestH4SeesItsSource(t *testing.T) {
	comes(t, "a = 1\ndef f():\n return a\na = 2\nx = f()\na = 3\ny = f()", "a=3; x=2; y=3", 2+1+2+5+2+5)
	comes(t, "def f():\n return g()\ndef g():\n return 1\nx = f()", "x=1", 2+3+3+2)
	fails(t, "def f():\n return g()\nx = f()", api.ErrNone, 1+3+3)
	comes(t, "load(\"lib\", \"f\")\na = 9\nx = f()", "a=9; x=5", 1+3+2+3+2, "lib", "a = 5\ndef f():\n return a")
	fails(t, "load(\"lib\", \"f\")\na = 9\nx = f()", api.ErrNone, 1+1+2+3+2, "lib", "def f():\n return a")
	// One that is handed on sees its own, too.
	comes(t, "load(\"lib\", \"f\")\na = 9\ndef g():\n return a\nx = f(g)", "a=9; x=[9, 5]", 1+3+2+1+4+5+2, "lib", "a = 5\ndef f(g):\n return [g(), a]")
}

func TestH4Return(t *testing.T) {
	const f = "def f(l):\n for i in l:\n  for j in i:\n   if j == 2:\n    return [i, j]\n return 0\n"
	// Of [[1], [3, 2, 1]]: the `for`, two turns with a `for` each, three turns with an `if` each, and a `return`.
	comes(t, f+"x = f([[1], [3, 2, 1]])", "x=[[3, 2, 1], 2]", 1+1+2+7+2+2*3+3*(1+4+1)+4)
	comes(t, f+"x = f([])", "x=0", 1+1+3+2+2)
	comes(t, "def f():\n if 1:\n  return\n return 2\nx = f()", "x=None", 1+3+2+2)
	comes(t, "def f():\n if 0:\n  pass\n else:\n  return 1\nx = f()", "x=1", 1+3+2+2)
}

func TestH5Handed(t *testing.T) {
	for name, good := range map[string]string{"len": `"a"`, "str": "1", "range": "1", "sorted": "[]", "join": `"", []`, "glob": "[]", "fail": `"a"`} {
		wrong(t, name+"()", api.ErrMany)
		wrong(t, name+"("+good+", 1)", api.ErrMany)
		wrong(t, name+"(None, None, None)", api.ErrMany)
		// Names come ahead of how many there are, and these ahead of types.
		wrong(t, name+"("+good+", a=1)", api.ErrType)
		wrong(t, name+"(1, 2, 3, a=1)", api.ErrType)
		wrong(t, name+"(a=1)", api.ErrType)
		if name != "str" {
			wrong(t, name+"("+strings.Repeat("None, ", strings.Count(good, ","))+"None)", api.ErrType)
			wrong(t, name+"("+strings.Repeat("len, ", strings.Count(good, ","))+"len)", api.ErrType)
		}
		// Those by these names are functions that are built in.
		comes(t, "x = "+name+"\ny = not x", "y=False", 2+3)
	}
}

func TestH5Len(t *testing.T) {
	for s, want := range map[string]string{`""`: "0", `"abc"`: "3", "\"\xc3\xa9\"": "2", "[]": "0", "[[1, 2], 3]": "2", "{}": "0", `{"a": 1, "b": 2}`: "2", "range(1000)": "1000"} {
		is(t, "len("+s+")", want)
	}
	for _, s := range []string{"1", "None", "True", "len"} {
		wrong(t, "len("+s+")", api.ErrType)
	}
}

func TestH5Str(t *testing.T) {
	for s, want := range map[string]string{
		"None": "None", "True": "True", "False": "False", "0": "0", "-1": "-1", "9007199254740991": "9007199254740991", "-9007199254740991": "-9007199254740991",
		`""`: "", `"a\n\"\\"`: "a\n\"\\", "[]": "[]", "[1]": "[1]", `["a", "b\n\t\"\\"]`: `["a", "b\n\t\"\\"]`, "[[], [1, [2]], {}]": "[[], [1, [2]], {}]",
		"{}": "{}", `{"b": 1, "a\n": ["x"]}`: `{"b": 1, "a\n": ["x"]}`, `{"": None}`: `{"": None}`, "[True, False, None]": "[True, False, None]", "[-1, {\"a\": {\"b\": \"\"}}]": `[-1, {"a": {"b": ""}}]`, "[\"\xff\"]": "[\"\xff\"]",
	} {
		is(t, "str("+s+")", want)
		is(t, s, want)
	}
	is(t, `str(str([1, "a"]))`, `[1, "a"]`)
	is(t, `[str([1, "a"])]`, `["[1, \"a\"]"]`)
	fails(t, "str(len)", api.ErrType, 1+3+1)
	fails(t, "str([1, len, 2])", api.ErrType, 1+6+3)
	fails(t, `str({"a": {"b": rule}})`, api.ErrType, 1+7+3)
}

func TestH5StrTooLong(t *testing.T) {
	in := "a = " + long(99990) + "\nb = "
	burnt := run(tree("main", in+"0"), api.MaxFuel).burnt + 1
	text := func(more int) string { return in + `a + "` + strings.Repeat("b", more) + "\"\n" }
	// In a list a text has its quotes and two brackets.
	for more, want := range map[int]api.Errno{5: api.OK, 6: api.OK, 7: api.ErrMany, 10: api.ErrMany} {
		if o := run(tree("main", text(more)+"x = len(str([b]))"), api.MaxFuel); o.err != want {
			t.Errorf("a list with a text of %d bytes: %d", 99990+more, o.err)
		}
	}
	is(t, "len(str("+long(api.MaxText)+"))", "100000")
	// What makes it too long is told before any later thing is written, and no sooner.
	fails(t, text(10)+"str([b, len])", api.ErrMany, burnt+1+1+5+2)
	fails(t, text(6)+"str([b, len])", api.ErrMany, burnt+1+1+5+2)
	fails(t, text(5)+"str([b, len])", api.ErrType, burnt+1+1+5+3)
	fails(t, text(5)+"str([b, 1])", api.ErrMany, burnt+1+1+5+3)
	fails(t, text(6)+"str([[b], len])", api.ErrMany, burnt+1+1+6+3)
	// The key of the second one is too long, so what it has is not looked at.
	fails(t, text(0)+"str({b: 1, \"c\": len})", api.ErrMany, burnt+1+1+7+2)
	fails(t, text(6)+"str({b: len})", api.ErrMany, burnt+1+1+5+1)
	fails(t, text(5)+"str({b: len})", api.ErrType, burnt+1+1+5+2)
	// What has `\` ahead of it counts twice.
	wrong(t, `len(str(["\n" + (`+long(99995)+")]))", api.ErrMany)
	is(t, `len(str(["\n" + (`+long(99994)+")]))", "100000")
}

func TestH5Range(t *testing.T) {
	is(t, "range(0)", "[]")
	is(t, "range(1)", "[0]")
	is(t, "range(4)", "[0, 1, 2, 3]")
	is(t, "range(-5)", "[]")
	is(t, "range(-9007199254740991)", "[]")
	is(t, "[len(range(1000)), range(1000)[999]]", "[1000, 999]")
	wrong(t, "range(1001)", api.ErrMany)
	wrong(t, "range(9007199254740991)", api.ErrMany)
	wrong(t, "range(True)", api.ErrType)
	wrong(t, `range("1")`, api.ErrType)
}

func TestH5Sorted(t *testing.T) {
	is(t, "sorted([])", "[]")
	is(t, "sorted([3])", "[3]")
	is(t, "sorted([3, -1, 20, 0])", "[-1, 0, 3, 20]")
	is(t, "sorted([2, 1, 2, 1])", "[1, 1, 2, 2]")
	is(t, `sorted(["b", "", "a", "B", "ab"])`, `["", "B", "a", "ab", "b"]`)
	comes(t, "x = [2, 1]\ny = sorted(x)", "x=[2, 1]; y=[1, 2]", 4+4)
	for _, s := range []string{`[1, "a"]`, `["a", 1]`, "[None]", "[True]", "[[]]", "[len]", "[1, True]", "[1, 2, None]", `["b", "a", []]`, "[{}, {}]", `"ba"`, "{}", "1"} {
		wrong(t, "sorted("+s+")", api.ErrType)
	}
}

func TestH5Join(t *testing.T) {
	is(t, `join("", [])`, "")
	is(t, `join(", ", [])`, "")
	is(t, `join(", ", ["a"])`, "a")
	is(t, `join(", ", ["a", "", "b"])`, "a, , b")
	for _, s := range []string{"1, []", `"", 1`, `"", "ab"`, `"", [1]`, `"", ["a", None]`, `["a"], ""`, `"", {"a": 1}`} {
		wrong(t, "join("+s+")", api.ErrType)
	}
	hundred := strings.Repeat("a", 100)
	is(t, `len(join("", ["`+hundred+`" for i in range(1000)]))`, "100000")
	is(t, `len(join("a", ["`+hundred[:99]+`" for i in range(1000)]))`, "99999")
	is(t, `len(join("a", ["`+hundred[:99]+`" for i in range(1000)]) + "a")`, "100000")
	wrong(t, `join("a", ["`+hundred+`" for i in range(1000)])`, api.ErrMany)
	wrong(t, `join("", ["`+hundred+`a" for i in range(1000)])`, api.ErrMany)
	is(t, `len(join("", [`+long(api.MaxText)+"]))", "100000")
	wrong(t, `join(`+long(api.MaxText)+`, ["", "a"])`, api.ErrMany)
	is(t, `join(`+long(api.MaxText)+`, ["a"])`, "a")
	wrong(t, `join("", [`+long(api.MaxText)+", 1])", api.ErrType)
}

func TestH5Glob(t *testing.T) {
	files := []string{"a", "1", "a-b/c.h", "", "a.b", "", "b.c", "", "b/a.c", "", "b/ab.c", "", "b/b/a.c", "", "b/b/aab", ""}
	glob := func(forms, want string) {
		t.Helper()
		l := strings.ReplaceAll(want, " ", `", "`)
		if l != "" {
			l = `"` + l + `"`
		}
		o := run(tree(append(files, "main", "x = glob(["+forms+"])")...), api.MaxFuel)
		if o.err != api.OK || o.has() != "x=["+l+"]" {
			t.Errorf("glob([%s]): %s %d, must be %s", forms, o.has(), o.err, l)
		}
	}
	glob("", "")
	glob(`""`, "")
	glob(`"a"`, "a")
	glob(`"b"`, "")
	glob(`"b/"`, "")
	glob(`"*"`, "a a.b b.c main")
	glob(`"**"`, "a a.b b.c main")
	glob(`"a*"`, "a a.b")
	glob(`"*a"`, "a")
	glob(`"*a*"`, "a a.b main")
	glob(`"*.*"`, "a.b b.c")
	glob(`"?.b", "a.?", "[a].b", ".*"`, "")
	glob(`"*/*"`, "a-b/c.h b/a.c b/ab.c")
	glob(`"*/*/*"`, "b/b/a.c b/b/aab")
	glob(`"*/*/*/*"`, "")
	glob(`"b/*.c"`, "b/a.c b/ab.c")
	glob(`"b*.c"`, "b.c")
	glob(`"b*a*"`, "")
	glob(`"*/a*b*"`, "b/ab.c")
	glob(`"*b/*a*b"`, "")
	glob(`"*/*/*a*b"`, "b/b/aab")
	glob(`"*/*/a*a*b"`, "b/b/aab")
	glob(`"*/*/a*a*a*b"`, "")
	glob(`"b/b/a"`, "")
	glob(`"/a", "a/", "./a", "b//a.c"`, "")
	glob(`"b/a.c", "a", "b/a.c", "no", "a*"`, "a a.b b/a.c")
	glob(`"a.b", "*.c", "main", "*/*.c"`, "a.b b.c b/a.c b/ab.c main")
	glob(`"*\n", "\"", "b\\a.c"`, "")
	for _, s := range []string{`"*"`, "[1]", `["*", None]`, "{}", `["*", ["*"]]`} {
		wrong(t, "glob("+s+")", api.ErrType)
	}
	// Long forms are no trouble.
	stars := `join("", ["` + strings.Repeat("*", 100) + `" for i in range(1000)])`
	is(t, "glob(["+stars+"])", `["main"]`)
	is(t, `glob(["*" + join("n", ["`+strings.Repeat("*", 90)+`" for i in range(1000)])])`, "[]")
	is(t, `glob([join("", ["*a" for i in range(1000)]), "m*"])`, `["main"]`)
}

func TestH5GlobAsPatterns(t *testing.T) {
	// Forms of few letters, held against what the document says of `*`, asked in all ways.
	var fits func(path, form string) bool
	fits = func(path, form string) bool {
		if form == "" || path == "" {
			return strings.Trim(form, "*") == path
		}
		if form[0] == '*' {
			return fits(path, form[1:]) || path[0] != '/' && fits(path[1:], form)
		}
		return form[0] == path[0] && fits(path[1:], form[1:])
	}
	paths := []string{"a", "a.a", "aa", "aab", "ab", "ab.b/a", "b/a", "b/aa/b", "b/ab", "b/b", "ba", "bb/a/b/a", "main"}
	d := draw(5)
	hits := 0
	for range 4000 {
		var form strings.Builder
		for range d.below(8) {
			form.WriteByte("ab*/*"[d.below(5)])
		}
		var files, want []string
		for _, path := range paths {
			text := ""
			if path == "main" {
				text = `x = join(" ", glob(["` + form.String() + `"]))`
			}
			files = append(files, path, text)
			if fits(path, form.String()) {
				want = append(want, path)
				hits++
			}
		}
		if o := run(tree(files...), 100); o.has() != "x="+strings.Join(want, " ") {
			t.Fatalf("glob([%q]): %s, must be %v", form.String(), o.has(), want)
		}
	}
	if hits < 2000 {
		t.Error(hits)
	}
}

func TestH5Fail(t *testing.T) {
	fails(t, `fail("")`, api.ErrFail, 1+3)
	fails(t, `x = 1 or fail("a")`+"\nfail(\"b\")", api.ErrFail, 3+4)
	wrong(t, "fail(1)", api.ErrType)
	wrong(t, `fail(["a"])`, api.ErrType)
}

// target of a source: how it is told.
func targets(t *testing.T, source, want string, files ...string) {
	t.Helper()
	o := run(tree(append(files, "main", source)...), api.MaxFuel)
	if got := fmt.Sprintf("%q", o.targets); o.err != api.OK || got != want {
		t.Errorf("%.300q: %s, error %d; must be %s", source, got, o.err, want)
	}
}

func TestH5Rule(t *testing.T) {
	targets(t, `rule(name="t")`, `[{"t" [] [] [] []}]`)
	targets(t, `rule(name="t", sources=["a", "b"], needs=["c"], outs=["d"], command=["e", "f g"])`, `[{"t" ["a" "b"] ["c"] ["d"] ["e" "f g"]}]`)
	targets(t, `rule(command=["", "\n"], outs=[], needs=["!", "!"], name="a.b-c_9")`, `[{"a.b-c_9" [] ["!" "!"] [] ["" "\n"]}]`)
	targets(t, "rule(name=\"b\")\nrule(name=\"a\")\nx = [rule(name=i) for i in [\"d\", \"c\"]]", `[{"b" [] [] [] []} {"a" [] [] [] []} {"d" [] [] [] []} {"c" [] [] [] []}]`)
	comes(t, `x = rule(name="t", outs=["o"])`, "x=t", 1+5)
	comes(t, "def f(n):\n return rule(name=n, sources=glob([\"*\"]))\nx = f(\"t\")", "x=t", 1+4+8)
	targets(t, "def f(n):\n return rule(name=n, sources=glob([\"*\"]))\nf(\"t\")", `[{"t" ["main"] [] [] []}]`)
	targets(t, "load(\"lib\", \"a\")\nrule(name=\"u\")\nload(\"lib\", \"a\")", `[{"l" [] [] [] []} {"u" [] [] [] []}]`, "lib", `a = rule(name="l")`)
}

func TestH5RuleErrors(t *testing.T) {
	for _, s := range []string{`"t"`, `"t", name="u"`, "1, none=2", `"t", name=1`} {
		wrong(t, "rule("+s+")", api.ErrType)
	}
	// Name by name, as they come.
	wrong(t, `rule(names="t")`, api.ErrNone)
	wrong(t, `rule(name="t", Outs=[])`, api.ErrNone)
	wrong(t, `rule(other=1, name=1)`, api.ErrNone)
	wrong(t, `rule(name=1, other=1)`, api.ErrType)
	wrong(t, `rule(outs=[1], other=1)`, api.ErrType)
	wrong(t, `rule(name="!", other=1)`, api.ErrNone)
	for _, s := range []string{"1", "None", `["t"]`, "len"} {
		wrong(t, "rule(name="+s+")", api.ErrType)
	}
	for _, name := range []string{"sources", "needs", "outs", "command"} {
		for _, s := range []string{"1", "None", `"t"`, "[1]", `["a", None]`, `[["a"]]`, `{"a": 1}`, "{}"} {
			wrong(t, `rule(name="t", `+name+"="+s+")", api.ErrType)
			wrong(t, "rule("+name+"="+s+`, name="!")`, api.ErrType)
		}
	}
	wrong(t, "rule()", api.ErrMany)
	wrong(t, "rule(outs=[], sources=[])", api.ErrMany)
	for _, s := range []string{"", "A", "a b", ".", "..", "a/b", strings.Repeat("a", api.MaxName+1), "\xc3", "*"} {
		wrong(t, `rule(name="`+s+`")`, api.ErrForm)
	}
	is(t, `rule(name="`+strings.Repeat("a", api.MaxName)+`")`, strings.Repeat("a", api.MaxName))
	wrong(t, `[rule(name="t"), rule(name="u"), rule(name="t")]`, api.ErrTwice)
	fails(t, "load(\"lib\", \"a\")\nrule(name=\"t\")", api.ErrTwice, 1+4+4, "lib", `a = rule(name="t")`)
}

func TestH5RuleMany(t *testing.T) {
	const s = "x = [rule(name=\"t\" + str(i)) for i in range(60)]\n"
	o := run(tree("main", s), api.MaxFuel)
	if len(o.targets) != api.MaxFiles || o.err != api.OK || o.targets[59].Name != "t59" {
		t.Error(o)
	}
	burnt := o.burnt
	fails(t, s+`rule(name="u")`, api.ErrMany, burnt+4)
	fails(t, s+`rule(name="U")`, api.ErrForm, burnt+4)
	fails(t, s+`rule(name="t7")`, api.ErrTwice, burnt+4)
}

func TestH6Statements(t *testing.T) {
	comes(t, "x = 1\nx = \"a\"\nx = [x]", `x=["a"]`, 2+2+3)
	comes(t, "if 1:\n x = 1\n y = 2\nelse:\n z = 3\nw = 4", "w=4; x=1; y=2", 2+4+2)
	comes(t, "for i in [1, 2]:\n x = i", "i=2; x=2", 4+2*3)
	comes(t, "x = []\nfor k in {\"b\": 1, \"a\": 2}:\n x = x + [k]", `k=a; x=["b", "a"]`, 2+6+2*6)
	comes(t, "l = [1, 2]\nx = 0\nfor i in l:\n l = []\n x = x + i", "i=2; l=[]; x=3", 4+2+2+2*(1+2+4))
	comes(t, "i = 5\nfor i in []:\n pass", "i=5", 4)
	comes(t, "for i in [1, 2]:\n i = i * 10", "i=20", 4+2*5)
	for _, s := range []string{"1", `"ab"`, "None", "True", "len"} {
		fails(t, "for i in "+s+":\n pass", api.ErrType, 2)
	}
	fails(t, "if a:\n pass", api.ErrNone, 2)
	fails(t, "for i in a:\n pass", api.ErrNone, 2)
	fails(t, "pass\na\nfail(\"\")", api.ErrNone, 3)
	comes(t, "i = 1\ndef f():\n for i in [8, 9]:\n  pass\n return i\nx = f()", "i=1; x=9", 2+1+3+4+2*2+2)
	comes(t, "def f():\n x = 1\n if x:\n  y = 2\n return y\nz = f()", "z=2", 1+3+2+2+2+2)
}

func TestH6Load(t *testing.T) {
	comes(t, "load(\"lib\", \"b\", \"a\")\nx = [a, b]", "a=1; b=2; x=[1, 2]", 1+6+4, "lib", "a = 1\nb = 2\nc = 3")
	comes(t, "a = 5\nload(\"d/lib\", \"a\")", "a=1", 2+1+2, "d/lib", "a = 1")
	comes(t, "load(\"lib\", \"f\")\nx = f()", "x=1", 1+1+3+2, "lib", "def f():\n return 1")
	// A source is done once, whoever loads it; what it has by loading it has, too.
	comes(t, "load(\"one\", \"c\")\nload(\"two\", \"c\", \"b\")\nx = b + c", "b=8; c=7; x=15", 1+(1+2)+1+(1+4)+4, "lib", "c = 7", "one", `load("lib", "c")`, "two", "load(\"lib\", \"c\")\nb = c + 1")
	// A later one may be loaded anywhere but in a block.
	comes(t, "x = 1\nload(\"lib\", \"a\")\nload(\"lib\", \"x\")", "a=1; x=2", 2+1+4+1, "lib", "a = 1\nx = 2")
}

func TestH6LoadErrors(t *testing.T) {
	fails(t, `load("no", "a")`, api.ErrNone, 1)
	fails(t, `load("", "a")`, api.ErrNone, 1)
	fails(t, `load("d", "a")`, api.ErrNone, 1, "d/lib", "a = 1")
	fails(t, `load("main", "a")`, api.ErrCircle, 1)
	fails(t, "a = 1\nload(\"main\", \"a\")", api.ErrCircle, 3)
	fails(t, `load("lib", "a")`, api.ErrCircle, 2, "lib", `load("main", "a")`)
	fails(t, `load("lib", "a")`, api.ErrCircle, 2, "lib", `load("lib", "a")`)
	fails(t, `load("one", "a")`, api.ErrCircle, 3, "one", `load("two", "a")`, "two", `load("one", "a")`)
	fails(t, `load("lib", "a")`, api.ErrForm, 1, "lib", "a = ")
	fails(t, `load("lib", "a")`, api.ErrForm, 1, "lib", "fail(\"\")\n)")
	fails(t, `load("lib", "a")`, api.ErrState, 1, "lib", "return")
	fails(t, `load("lib", "a")`, api.ErrTwice, 1, "lib", "def f(a, a):\n pass")
	fails(t, `load("lib", "a")`, api.ErrRange, 1, "lib", "a = 01")
	fails(t, `load("lib", "a")`, api.ErrMany, 1, "lib", strings.Repeat(" ", api.MaxSource+1))
	fails(t, `load("lib", "a")`, api.ErrFail, 1+4, "lib", `fail("")`)
	fails(t, `load("lib", "b")`, api.ErrNone, 1+2, "lib", "a = 1")
	fails(t, `load("lib", "a", "b", "c")`, api.ErrNone, 1+2, "lib", "a = 1")
	// What is built in is no name that it has, nor are those that a function has.
	fails(t, `load("lib", "len")`, api.ErrNone, 1+2, "lib", "a = 1")
	fails(t, `load("lib", "a")`, api.ErrNone, 1+1+3+2, "lib", "def f():\n a = 1\nf()")
}

func TestH7Errors(t *testing.T) {
	good := tree("main", "x = 1")
	for _, c := range []struct {
		files []api.File
		path  string
		fuel  int
		want  api.Errno
	}{
		{good, "main", 2, api.OK}, {good, "main", api.MaxFuel, api.OK}, {good, "main", 1, api.ErrFuel}, {good, "main", 0, api.ErrFuel},
		{good, "main", -1, api.ErrRange}, {good, "main", api.MaxFuel + 1, api.ErrRange}, {good, "no", -1, api.ErrRange}, {tree("main", "("), "main", -1, api.ErrRange},
		{good, "no", 5, api.ErrNone}, {good, "", 5, api.ErrNone}, {good, "MAIN", 0, api.ErrNone}, {nil, "main", 5, api.ErrNone},
		{tree("main", "("), "main", 5, api.ErrForm}, {tree("main", "return"), "main", 5, api.ErrState}, {tree("main", strings.Repeat("#", 6001)), "main", 5, api.ErrMany}, {tree("main", "f(a=1, a=1)"), "main", 0, api.ErrTwice}, {tree("main", "00"), "main", 0, api.ErrRange},
		{tree("Main", "x = 1"), "Main", -1, api.ErrForm}, {tree("", "x = 1"), "", 5, api.ErrForm}, {tree("main", "x = 1", "z", strings.Repeat("#", api.MaxText+1)), "main", -1, api.ErrMany},
		{tree("main", "x = 1", "main/a", ""), "main", -1, api.ErrTwice}, {tree("main", "x = 1", "main", "x = 1"), "main", 5, api.ErrTwice}, {[]api.File{{Path: "main"}, {Path: "a"}}, "main", -1, api.ErrTwice}, {make([]api.File, api.MaxFiles+1), "main", -1, api.ErrMany},
	} {
		var o outcome
		o.targets, o.globals, o.burnt, o.err = eval.Run(c.files, c.path, c.fuel)
		want := outcome{err: c.want}
		if c.want == api.OK {
			want = outcome{globals: []api.Global{{Name: "x", Text: "1"}}, burnt: 2}
		}
		if !same(o, want) {
			t.Errorf("Run(%.100s, %q, %d): %v, must be %v", fmt.Sprint(c.files), c.path, c.fuel, o, want)
		}
	}
	// Beside an error there are no targets, either.
	fails(t, "x = rule(name=\"t\")\na", api.ErrNone, 4+2)
	// A file that is run may be a source, and one with any text be there.
	files := []api.File{{Path: "b", Text: "\x00(", Run: true}, {Path: "d/main", Text: "x = 1", Run: true}}
	if _, l, n, e := eval.Run(files, "d/main", 2); len(l) != 1 || n != 2 || e != api.OK {
		t.Error(l, n, e)
	}
}

func TestH7Globals(t *testing.T) {
	comes(t, "b = 1\na = 2\nB = 3\n_ = 4\nab = 5\na1 = 6", "B=3; _=4; a=2; a1=6; ab=5; b=1", 12)
	comes(t, "x = \"a\\n\"\ny = [x]", `x=a`+"\n"+`; y=["a\n"]`, 2+3)
	// Functions are left out, and what has one in it.
	comes(t, "def f():\n pass\na = f\nb = [1, [f]]\nc = {\"k\": len}\nd = [1]\ne = len\ng = f()", "d=[1]; g=None", 1+2+5+4+3+2+3+1)
	comes(t, `load("lib", "f", "a")`, "a=1", 1+1+2, "lib", "def f():\n pass\na = 1")
	// So is what is too long, and all the rest is there.
	in := "a = " + long(99990) + "\nb = "
	for more, there := range map[int]bool{6: true, 7: false} {
		o := run(tree("main", in+`a + "`+strings.Repeat("b", more)+"\"\nc = [b]\nd = 1"), api.MaxFuel)
		names := ""
		for _, g := range o.globals {
			names += g.Name
			if len(g.Text) > api.MaxText {
				t.Errorf("%s has %d bytes", g.Name, len(g.Text))
			}
		}
		if want := map[bool]string{true: "abcdij", false: "abdij"}[there]; names != want || o.err != api.OK {
			t.Errorf("with %d more: %s %d, must be %s", more, names, o.err, want)
		}
	}
	o := run(tree("main", "a = "+long(api.MaxText)), api.MaxFuel)
	if len(o.globals) != 3 || o.globals[0].Text != strings.Repeat("a", api.MaxText) {
		t.Errorf("%.100s", o.has())
	}
	// Very deep, and very many.
	comes(t, "x = []\nfor i in range(1000):\n x = [x]", "i=999; x="+strings.Repeat("[", 1001)+strings.Repeat("]", 1001), 2+4+1000*4)
	deep := "x = []\nfor i in range(1000):\n for j in range(80):\n  x = " + strings.Repeat("[", 28) + "x" + strings.Repeat("]", 28) + "\n"
	if o := run(tree("main", deep), api.MaxFuel); o.err != api.ErrFuel {
		t.Error(o.err)
	}
	deep = strings.Replace(deep, "range(80)", "range(3)", 1)
	if o := run(tree("main", deep), api.MaxFuel); o.has() != "i=999; j=2" {
		t.Errorf("%.100s %d", o.has(), o.err)
	}
	if o := run(tree("main", strings.Replace(deep, "1000", "500", 1)+"y = x == x"), api.MaxFuel); o.has() != "i=499; j=2; x="+strings.Repeat("[", 42001)+strings.Repeat("]", 42001)+"; y=True" {
		t.Errorf("%.100s %d", o.has(), o.err)
	}
}

func TestH8OtherFiles(t *testing.T) {
	source := "load(\"lib\", \"f\")\nx = f(2)\nrule(name=\"t\", sources=glob([\"*.c\"]))"
	few := tree("a.c", "", "lib", "def f(x):\n return [x]", "main", source)
	many := tree("a.c", "", "a.c.d", "(", "b/a.c", "return", "lib", "def f(x):\n return [x]", "lib2", "fail(\"\")", "main", source)
	want := run(few, api.MaxFuel)
	if o := run(many, api.MaxFuel); !same(o, want) || o.err != api.OK || o.has() != "x=[2]" {
		t.Error(o, want)
	}
}

func TestP1VeryDeep(t *testing.T) {
	// Functions that call one another from deep within: as deep as there is fuel.
	sum := strings.Repeat("+0", 2900)
	parts := []string{"f00", "def f00():\n return 0" + sum}
	for i := 1; i < api.MaxFiles-1; i++ {
		parts = append(parts, fmt.Sprintf("f%02d", i), fmt.Sprintf("load(\"f%02d\", \"f%02d\")\ndef f%02d():\n return f%02d()%s", i-1, i-1, i, i-1, sum))
	}
	ends := func(last int, want api.Errno) {
		t.Helper()
		o := run(tree(append(parts, "main", fmt.Sprintf("load(\"f%02d\", \"f%02d\")\nx = f%02d()", last, last, last))...), api.MaxFuel)
		if o.err != want || want == api.OK && o.has() != "x=0" {
			t.Error(o)
		}
	}
	ends(16, api.OK)
	ends(api.MaxFiles-2, api.ErrFuel)
}

func TestP2OnlyRead(t *testing.T) {
	room := append(make([]api.File, 0, 9), tree("a", "b = 1", "main", "load(\"a\", \"b\")\nrule(name=\"t\", sources=glob([\"*\"]), needs=glob([\"*\"]), outs=glob([\"*\"]), command=glob([\"*\"]))\nl = [\"x\"]\nrule(name=\"u\", outs=l, needs=l, sources=l)\nrule(name=\"v\", outs=l)")...)
	was := append([]api.File(nil), room[:9]...)
	first := run(room, 1000)
	second := run(room, 1000)
	if !same(first, second) || first.err != api.OK || len(first.targets) != 3 {
		t.Fatal(first, second)
	}
	// A list that is changed is no other one's.
	for i := range first.targets {
		for _, l := range [][]string{first.targets[i].Sources, first.targets[i].Needs, first.targets[i].Outs, first.targets[i].Command} {
			for j := range l {
				if strings.HasPrefix(l[j], "changed") {
					t.Error("two lists share memory")
				}
				l[j] = "changed"
			}
			if len(l) > 0 && cap(l) > len(l) {
				_ = append(l, "changed")
			}
		}
	}
	if third := run(room, 1000); !same(second, third) {
		t.Error(second, third)
	}
	for i, f := range room[:9] {
		if f != was[i] {
			t.Error("a file changed", i)
		}
	}
}
