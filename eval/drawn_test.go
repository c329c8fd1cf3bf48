package eval_test

import (
	"fmt"
	"strings"
	"testing"

	"foundry/api"
	"foundry/syntax"
)

// Kinds of values that are drawn: i int, t text, l list, d dictionary, b truth, n None, f function.
const kinds = "itldbnf"

// maker draws sources: wild ones meet all troubles, others few.
type maker struct {
	draw
	wild  bool
	rules int
}

// wilder is one of what is drawn for wild sources, or else this.
func (d *maker) wilder(tame string, l ...string) string {
	if d.wild {
		return d.of(append(l, tame)...)
	}
	return tame
}

// expr of a kind; in wild sources it is of another kind now and then.
func (d *maker) expr(kind byte, deep int) string {
	if d.wild && d.below(60) == 0 {
		kind = kinds[d.below(len(kinds))]
	}
	if deep <= 0 {
		return d.plain(kind)
	}
	sub := func(kind byte) string { return d.expr(kind, deep-1) }
	any := kinds[d.below(len(kinds)-1)]
	switch d.below(8) {
	case 0:
		return d.plain(kind)
	case 1:
		return "(" + sub(kind) + " " + d.of("or", "and") + " " + sub(kind) + ")"
	case 2:
		return d.of("f", "h") + "(" + sub(kind) + d.wilder("", ", b="+sub('i'), ", "+sub(any), ", a=1") + ")"
	case 3:
		return "[" + sub(kind) + ", " + sub(kind) + "][" + d.wilder(d.of("0", "1", "-1", "-2"), "i") + "]"
	}
	switch kind {
	case 'i':
		return d.of("("+sub('i')+" "+d.wilder(d.of("+", "-"), "*", "//", "%")+" "+sub('i')+")", "("+sub('i')+" "+d.of("//", "%")+d.of(" 7", " -3", " 9007199254740991")+")", "("+d.of("i", "j", "7")+" * "+d.of("-1", "3", "len(l)")+")", "len("+sub("tld"[d.below(3)])+")", "-"+sub('i'), `{"k": `+sub('i')+`}["k"]`, d.wilder("range(9)[-4]", "range(9)["+sub('i')+"]"))
	case 't':
		d.rules++
		return d.of("("+sub('t')+" + "+sub('t')+")", "str("+sub(any)+")", "join("+sub('t')+", ["+sub('t')+", "+sub('t')+"])", d.wilder("str("+sub('i')+")[0]", sub('t')+"["+sub('i')+"]"), d.wilder(fmt.Sprintf(`rule(name="x%d", needs=[%s], outs=[s])`, d.rules, sub('t')), "rule(name="+sub('t')+", outs=["+sub('t')+"])"))
	case 'l':
		return d.of("["+sub(any)+", "+sub(any)+"]", "("+sub('l')+" + "+sub('l')+")", "range("+d.wilder("i % 9", sub('i'))+")", "sorted(["+sub('i')+", "+sub('i')+", "+sub('i')+"])", "sorted(["+sub('t')+", "+sub('t')+"])", "g("+sub(any)+d.of(", ", ", b=")+sub(any)+")",
			"["+sub(any)+" for "+d.wilder("v", "i")+" in "+d.of(sub('l'), sub('d'), "range(3)")+d.of("", " if "+sub('b'), " if i")+"]", "glob([\"*\", "+sub('t')+"])")
	case 'd':
		return "{" + d.wilder(`"a"`, sub('t')) + ": " + sub(any) + d.of("", ", "+d.wilder(`"b"`, sub('t'))+": "+sub(any)) + "}"
	case 'b':
		return d.of("("+sub(any)+" "+d.of("==", "!=")+" "+sub(any)+")", "("+sub('i')+" "+d.of("<", "<=")+" "+sub('i')+")", "("+sub('t')+" "+d.of("<", "<=", "in")+" "+sub('t')+")", "("+sub(any)+" in "+sub('l')+")", "("+sub('t')+" in "+sub('d')+")", "(not "+sub(any)+")", "("+sub(any)+" == "+sub(any)+")")
	}
	return d.plain(kind)
}

func (d *maker) plain(kind byte) string {
	switch kind {
	case 'i':
		return d.wilder(d.of("0", "1", "2", "3", "-1", "7", "i", "j"), "9007199254740991", "i", "j", "i", "j")
	case 't':
		return d.of(`""`, `"a"`, `"b"`, `"ab"`, `"*.c"`, `"\n"`, "s", "t", "s", "t")
	case 'l':
		return d.of("[]", "[1, 2]", `["a", "b"]`, "l", "m", "l", "m")
	case 'd':
		return d.of("{}", `{"a": 1}`, `{"a": 1, "b": "b"}`, "d", "d")
	case 'b':
		return d.of("True", "False", "b")
	case 'f':
		return d.of("f", "g", "h", "len", "str", "sorted")
	}
	return "None"
}

// named is a name that has a kind, mostly.
func named(d *maker) (string, byte) {
	k := kinds[d.below(5)]
	return d.of(map[byte][]string{'i': {"i", "j"}, 't': {"s", "t"}, 'l': {"l", "m"}, 'd': {"d"}, 'b': {"b"}}[k]...), k
}

func (d *maker) block(in, blocks int, def bool) string {
	var s strings.Builder
	for range 1 + d.below(3) {
		s.WriteString(strings.Repeat(" ", in) + d.stmt(in, blocks, def) + "\n")
	}
	return s.String()
}

func (d *maker) stmt(in, blocks int, def bool) string {
	name, kind := named(d)
	switch k := d.below(12); {
	case k < 5 || blocks == 0:
		return name + " = " + d.expr(kind, d.below(4))
	case k == 5:
		return d.expr(kinds[d.below(len(kinds))], 2)
	case k == 6:
		return "if " + d.expr('b', 2) + ":\n" + d.block(in+1, blocks-1, def) + strings.Repeat(" ", in) + "else:\n" + strings.TrimRight(d.block(in+1, blocks-1, def), "\n")
	case k == 7:
		return "if " + d.expr(kind, 1) + ":\n" + strings.TrimRight(d.block(in+1, blocks-1, def), "\n")
	case k == 8:
		return "for " + d.wilder("v", "i", "j") + " in " + d.of(d.expr('l', 2), "range(4)", d.expr('d', 2)) + ":\n" + strings.TrimRight(d.block(in+1, blocks-1, def), "\n")
	case k == 9 && def:
		return "return " + d.expr(kind, 2)
	case k == 10 && in == 0:
		return "def " + d.wilder("q(a, b)", "f(a)", "g(a, b)", "h()", "h(x, b, i)", "f(b)") + ":\n" + strings.TrimRight(d.block(1, blocks-1, true), "\n") + d.of("", "\n return a", "\n return b")
	case k == 11 && in == 0:
		return `load("` + d.wilder(d.of("lib", "low"), "no", "main", "wrong") + `", "` + d.wilder(d.of("i", "f"), "i", "s", "l", "zz") + `")`
	}
	return "pass"
}

// drawnFiles of which the source at "main" is done.
func drawnFiles(d *maker) []api.File {
	const begin = "i = 2\nj = 3\ns = \"a\"\nt = \"t\" + str(i)\nl = [1, 2]\nm = [\"x\", \"y\"]\nd = {\"a\": 1, \"k\": [2]}\nb = True\nv = 0\ndef f(a):\n return a\ndef g(a, b):\n return [a, b]\ndef h(a):\n return f(a)\n"
	d.wild, d.rules = d.below(2) == 0, 0
	return tree("a.c", "", "ab", "", "lib", begin+d.block(0, 2, false)+d.block(0, 2, false), "low", "i = 9\nload(\"lib\", \"f\")\n"+d.block(0, 1, false), "main", begin+d.block(0, 3, false)+d.block(0, 3, false)+d.block(0, 3, false), "wrong", "a = ")
}

func TestHDrawnSourcesAsModel(t *testing.T) {
	d := maker{draw: 7}
	had := map[api.Errno]int{}
	for range 4000 {
		files := drawnFiles(&d)
		fuel := 3000
		if d.below(4) == 0 {
			fuel = d.below(200)
		}
		o := run(files, fuel)
		if want := modelRun(files, "main", fuel); !same(o, want) {
			t.Fatalf("%s\nwith %d: %v, must be %v", fmt.Sprint(files), fuel, o, want)
		}
		had[o.err]++
	}
	for _, e := range []api.Errno{api.OK, api.ErrForm, api.ErrMany, api.ErrRange, api.ErrNone, api.ErrTwice, api.ErrType, api.ErrFuel, api.ErrCircle} {
		if had[e] < 30 {
			t.Errorf("the error %d came %d times: %v", e, had[e], had)
		}
	}
}

func TestH8DrawnSources(t *testing.T) {
	d := maker{draw: 8}
	came := 0
	for range 500 {
		files := drawnFiles(&d)
		want := run(files, 3000)
		if want.err == api.ErrFuel {
			continue
		}
		// With more fuel it is the same, with less it ends by that.
		least := needs(t, files)
		if want.err == api.OK && least != want.burnt {
			t.Fatalf("%v\nburns %d, needs %d", files, want.burnt, least)
		}
		for _, fuel := range []int{least + 1, least + d.below(5000), api.MaxFuel} {
			if o := run(files, fuel); !same(o, want) {
				t.Fatalf("%v\nwith %d: %v, with 3000: %v", files, fuel, o, want)
			}
		}
		if least > 0 {
			if o := run(files, d.below(least)); !same(o, outcome{err: api.ErrFuel}) {
				t.Fatalf("%v\nwith less than %d: %v", files, least, o)
			}
		}
		if want.err == api.OK {
			came++
		}
		// What Canon makes of a source comes to the same, with as much fuel.
		canon := append([]api.File(nil), files...)
		for i, f := range files {
			if c, fault := syntax.Canon(f.Text); fault.Err == api.OK {
				canon[i].Text = c
			}
		}
		if o := run(canon, least); !same(o, want) {
			t.Fatalf("%v\nas Canon writes it: %v, must be %v", files, o, want)
		}
	}
	if came < 100 {
		t.Errorf("only %d came to something", came)
	}
}
