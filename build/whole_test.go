package build_test

import (
	"fmt"
	"reflect"
	"strings"
	"testing"

	"foundry/api"
	"foundry/build"
)

func TestK4Build(t *testing.T) {
	files := with(some(),
		target("top", "c", "right left", "out/top", "read a out/l; read b out/r; join a b; read b c; join a b; make out/top a"),
		target("left", "", "base", "out/l", "read a out/base; set b l; join a b; make out/l a; make more a"),
		target("right", "", "base", "out/r out/x", "read a out/base; set b r; join a b; make out/r a; run out/x a"),
		target("base", "b", "", "out/base", "read a b; make out/base a"),
		target("alone", "", "", "", ""),
	)
	comes(t, files, "base", plenty, api.Built{Files: []api.File{file("out/base", "3")}, Ran: 1}, api.OK)
	comes(t, files, "left", plenty, api.Built{Files: []api.File{file("out/l", "3l")}, Ran: 2}, api.OK)
	comes(t, files, "right", plenty, api.Built{Files: []api.File{file("out/r", "3r"), runFile("out/x", "3r")}, Ran: 2}, api.OK)
	comes(t, files, "top", plenty, api.Built{Files: []api.File{file("out/top", "3l3r4")}, Ran: 4}, api.OK)
	comes(t, files, "alone", plenty, api.Built{Ran: 1}, api.OK)
	comes(t, with(nil, target("hi", "", "", "out", "set a hi; make out a")), "hi", plenty, api.Built{Files: []api.File{file("out", "hi")}, Ran: 1}, api.OK)
}

func TestK4WhatAnActionIsGiven(t *testing.T) {
	list := "list a .; make %s a"
	files := with(some(),
		target("top", "c", "mid mid", "top", fmt.Sprintf(list, "top")),
		target("mid", "a/x b", "low other", "mid", fmt.Sprintf(list, "mid")),
		target("low", "", "", "low/1 low/2", "make low/1 a; make low/2 a; make low/3 a"),
		target("other", "b", "", "other", fmt.Sprintf(list, "other")),
		target("deep", "", "mid", "deep", "read a low/1; make deep a"),
	)
	// Its own Sources, and what its own Needs made: not what these needed.
	comes(t, files, "other", plenty, api.Built{Files: []api.File{file("other", "b\n")}, Ran: 1}, api.OK)
	comes(t, files, "mid", plenty, api.Built{Files: []api.File{file("mid", "a/x\nb\nlow/1\nlow/2\nother\n")}, Ran: 3}, api.OK)
	comes(t, files, "top", plenty, api.Built{Files: []api.File{file("top", "c\nmid\n")}, Ran: 4}, api.OK)
	comes(t, files, "deep", plenty, api.Built{Failed: "deep", Code: api.CodeNone, Ran: 4}, api.OK)
}

func TestK4Failed(t *testing.T) {
	files := with(some(),
		target("top", "", "b1 c1", "top", "make top a"),
		target("b1", "", "a1", "", "exit 3"),
		target("c1", "", "a1", "", "exit 4"),
		target("a1", "", "", "", ""),
		target("by-c", "", "c1", "", ""),
		target("less", "", "", "l1 l2", "make l1 a"),
		target("none", "", "", "n1", "make n1 a; read a b"),
		target("round", "", "", "", "goto 0"),
		target("path", "", "", "", "make o a; make o/p a"),
	)
	// The first one of the cone's order; those behind it do not run.
	comes(t, files, "top", plenty, api.Built{Failed: "b1", Code: 3, Ran: 2}, api.OK)
	comes(t, files, "b1", plenty, api.Built{Failed: "b1", Code: 3, Ran: 2}, api.OK)
	comes(t, files, "by-c", plenty, api.Built{Failed: "c1", Code: 4, Ran: 2}, api.OK)
	comes(t, files, "less", plenty, api.Built{Failed: "less", Code: api.CodeOutput, Ran: 1}, api.OK)
	comes(t, files, "none", plenty, api.Built{Failed: "none", Code: api.CodeNone, Ran: 1}, api.OK)
	comes(t, files, "round", plenty, api.Built{Failed: "round", Code: api.CodeFuel, Ran: 1}, api.OK)
	comes(t, files, "path", plenty, api.Built{Failed: "path", Code: api.CodePath, Ran: 1}, api.OK)
}

// TestK4FuelEach: the source and each action have as much fuel as there is, however much others burnt.
func TestK4FuelEach(t *testing.T) {
	long := strings.Repeat("x", 1600)
	files := with([]api.File{file("x", long)},
		target("a", "x", "", "o", "read a x; make o a"),
		target("b", "", "a", "p", "read a o; make p a"),
	)
	comes(t, files, "b", 202, api.Built{Files: []api.File{file("p", long)}, Ran: 2}, api.OK)
	comes(t, files, "b", 201, api.Built{Failed: "a", Code: api.CodeFuel, Ran: 1}, api.OK)
	comes(t, files, "b", api.MaxFuel, api.Built{Files: []api.File{file("p", long)}, Ran: 2}, api.OK)
	// What the source burns too much is an error, what an action does is a code.
	round := []api.File{file("main", "rule(name=\"a\", command=[\"goto 0\"])")}
	comes(t, round, "a", 5, api.Built{}, api.ErrFuel)
	comes(t, round, "a", 6, api.Built{Failed: "a", Code: api.CodeFuel, Ran: 1}, api.OK)
	comes(t, round, "a", api.MaxFuel, api.Built{Failed: "a", Code: api.CodeFuel, Ran: 1}, api.OK)
}

func TestK4ErrorsAheadOfTargets(t *testing.T) {
	main := func(s string) []api.File { return []api.File{file("b", "2"), file("main", s)} }
	good := "rule(name=\"t\")\n"
	wrong := "rule(name=\"t\", command=[\"no\"])\n"
	for _, c := range []struct {
		files []api.File
		name  string
		fuel  int
		e     api.Errno
	}{
		{main(good), "t", plenty, api.OK},
		// Those of Run of chapter 8, the first of which are of files.
		{append(main("x = "), file("a", "")), "none", -1, api.ErrTwice},
		{[]api.File{file("main", good), file("main/", "")}, "t", plenty, api.ErrForm},
		{make([]api.File, api.MaxFiles+1), "t", plenty, api.ErrMany},
		{main("x = "), "none", -1, api.ErrRange},
		{main(good), "t", api.MaxFuel + 1, api.ErrRange},
		{main(good), "t", 0, api.ErrFuel},
		{nil, "t", plenty, api.ErrNone},
		{main("x = "), "none", plenty, api.ErrForm},
		{main("fail(\"x\")\n"), "none", plenty, api.ErrFail},
		{main("load(\"main\", \"x\")\n"), "none", plenty, api.ErrCircle},
		{main("rule(name=\"t\", needs=[\"t\"])\n" + good), "none", plenty, api.ErrTwice},
		// Those of Check of chapter 9, also of targets that nobody needs.
		{main("rule(name=\"t\", needs=[\"x\"])\n"), "none", plenty, api.ErrNone},
		{main("rule(name=\"t\", needs=[\"t\"])\n"), "none", plenty, api.ErrCircle},
		{main(good + "rule(name=\"u\", needs=[\"u\"])\n"), "t", plenty, api.ErrCircle},
		{main(good + "rule(name=\"u\", sources=[\"none\"])\n"), "t", plenty, api.ErrNone},
		{main(good + "rule(name=\"u\", outs=[\"/\"])\n"), "none", plenty, api.ErrForm},
		{main(good + "rule(name=\"u\", outs=[\"b/c\"])\n"), "none", plenty, api.ErrTwice},
		{main(good + "rule(name=\"u\", outs=[\"o\", \"o\"])\n"), "t", plenty, api.ErrTwice},
		{main(good + "rule(name=\"u\", command=[\"x\" for i in range(61)])\n"), "none", plenty, api.ErrMany},
		// Then ErrNone, ahead of what is wrong with a target as it is built.
		{main(""), "t", plenty, api.ErrNone},
		{main(wrong), "none", plenty, api.ErrNone},
		{main(wrong), "", plenty, api.ErrNone},
		{main(wrong), "t", plenty, api.ErrForm},
	} {
		want := api.Built{}
		if c.e == api.OK {
			want.Ran = 1
		}
		comes(t, c.files, c.name, c.fuel, want, c.e)
	}
	if b, e := build.Build(main(good), "none", "t", plenty); e != api.ErrNone || !sameBuilt(b, api.Built{}) {
		t.Errorf("Build of a source that is not there: %v %d", b, e)
	}
	if b, e := build.Build(main(wrong), "b", "t", plenty); e != api.ErrNone || !sameBuilt(b, api.Built{}) {
		t.Errorf("Build of another source: %v %d", b, e)
	}
}

// makers of so many outs each: a source that declares them, and users of them.
func makers(users string) []api.File {
	return []api.File{file("b", "2"), file("main", `
def maker(name, n):
    outs = [name + "/" + str(i) for i in range(n)]
    return rule(name=name, outs=outs, command=["make " + o + " a" for o in outs])
maker("m30", 30)
maker("m29", 29)
maker("m31", 31)
maker("m1", 1)
rule(name="bad", needs=["m1"], command=["exit 3"])
rule(name="wrong", needs=["m1"], command=["goto 9"])
`+users)}
}

func TestK4ErrorsOfTargets(t *testing.T) {
	for _, c := range []struct {
		user string
		want api.Built
		e    api.Errno
	}{
		{`needs=["m30", "m29", "m1"]`, api.Built{Ran: 4}, api.OK},
		{`needs=["m30", "m29"], sources=["b"]`, api.Built{Ran: 3}, api.OK},
		{`needs=["m30", "m29", "m30", "m29"], sources=["b"]`, api.Built{Ran: 3}, api.OK},
		// What needs made does not go together, or not with sources.
		{`needs=["m30", "m31"]`, api.Built{}, api.ErrMany},
		{`needs=["m30", "m29", "m1"], sources=["b"]`, api.Built{}, api.ErrMany},
		{`needs=["m30", "m31"], command=["no"]`, api.Built{}, api.ErrMany},
		{`needs=["m30", "m31"], command=["exit 3"]`, api.Built{}, api.ErrMany},
		// Target by target: what comes first in the cone's order is told.
		{`needs=["wrong"]`, api.Built{}, api.ErrForm},
		{`needs=["m30", "m31", "wrong"]`, api.Built{}, api.ErrForm},
		{`needs=["wrong", "bad"]`, api.Built{Failed: "bad", Code: 3, Ran: 2}, api.OK},
		{`needs=["m30", "m31", "bad"]`, api.Built{Failed: "bad", Code: 3, Ran: 2}, api.OK},
		{`needs=["m1"], command=["no"]`, api.Built{}, api.ErrForm},
	} {
		comes(t, makers("rule(name=\"user\", "+c.user+")\n"), "user", plenty, c.want, c.e)
	}
	// One that is wrong, but not needed, is not met.
	comes(t, makers(""), "m1", plenty, api.Built{Files: []api.File{file("m1/0", "")}, Ran: 1}, api.OK)
}

func TestK4SourcesThatLoad(t *testing.T) {
	files := []api.File{
		file("lib/rules", "def copy(name, path):\n    return rule(name=name, sources=[path], outs=[\"out/\" + name], command=[\"read a \" + path, \"make out/\" + name + \" a\"])\n"),
		file("main", "load(\"lib/rules\", \"copy\")\nfor p in glob([\"x/*\"]):\n    copy(\"copy-\" + p[2], p)\nrule(name=\"all\", needs=[\"copy-\" + p[2] for p in glob([\"x/*\"])], outs=[\"all\"], command=[\"list a .\", \"make all a\"])\n"),
		file("x/1", "one"), file("x/2", "two"),
	}
	comes(t, files, "copy-2", plenty, api.Built{Files: []api.File{file("out/copy-2", "two")}, Ran: 1}, api.OK)
	comes(t, files, "all", plenty, api.Built{Files: []api.File{file("all", "out/copy-1\nout/copy-2\n")}, Ran: 3}, api.OK)
}

func TestP2P3OnlyReadAndNew(t *testing.T) {
	spare := func(l ...string) []string { return append(make([]string, 0, 8), l...) }
	newFiles := func(l ...api.File) []api.File { return append(make([]api.File, 0, 8), l...) }
	newTarget := func() api.Target {
		return api.Target{Name: "t", Sources: spare("c", "b"), Needs: spare("u"), Outs: spare("z", "o", "p"), Command: spare("read a b", "run z a", "make p a", "make o a", "make x a")}
	}
	files, made, one := newFiles(some()...), newFiles(file("m", "5")), newTarget()
	whole := newFiles(with(nil, one, api.Target{Name: "u"})...)
	whole = append(newFiles(some()[2:]...), whole...)
	unchanged := func() {
		t.Helper()
		want, wholeWant := newTarget(), with(some()[2:], newTarget(), api.Target{Name: "u"})
		for _, pair := range [][2][]string{{one.Sources, want.Sources}, {one.Needs, want.Needs}, {one.Outs, want.Outs}, {one.Command, want.Command}} {
			if !reflect.DeepEqual(pair[0][:8], pair[1][:8]) {
				t.Errorf("%q became %q", pair[1][:8], pair[0][:8])
			}
		}
		for _, pair := range [][2][]api.File{{files, some()}, {made, []api.File{file("m", "5")}}, {whole, wholeWant}} {
			if !reflect.DeepEqual(pair[0][:8], newFiles(pair[1]...)[:8]) {
				t.Errorf("%v became %v", pair[1], pair[0][:8])
			}
		}
	}
	a, in, e := build.Plan(files, one, made, plenty)
	unchanged()
	a.Command, a.Outputs, in = spare(a.Command...), spare(a.Outputs...), newFiles(in...)
	r, outs, f := build.Do(in, a)
	k, _ := build.Key(a)
	b, g := build.Build(whole, "main", "t", plenty)
	unchanged()
	if e != api.OK || f != api.OK || g != api.OK || len(outs) != 3 || !same(outs, b.Files) {
		t.Fatalf("%v %d; %v %d; %v %d", a, e, outs, f, b, g)
	}
	again, inAgain, _ := build.Plan(files, one, made, plenty)
	rAgain, outsAgain, _ := build.Do(in, a)
	kAgain, _ := build.Key(a)
	bAgain, _ := build.Build(whole, "main", "t", plenty)
	if !sameAction(a, again) || !same(in, inAgain) || r != rAgain || !same(outs, outsAgain) || k != kAgain || !sameBuilt(b, bAgain) {
		t.Errorf("then it is %v %v %v %v %s %v", again, inAgain, rAgain, outsAgain, kAgain, bAgain)
	}
	if !reflect.DeepEqual(a.Command[5:8], spare()[5:8]) || !reflect.DeepEqual(a.Outputs[3:8], spare()[3:8]) || !reflect.DeepEqual(in[3:8], newFiles()[3:8]) {
		t.Errorf("the spare room behind what Do was handed was changed")
	}
	for _, l := range [][]string{again.Command, again.Outputs} {
		for i := range l[:cap(l)] {
			l[:cap(l)][i] = "changed"
		}
	}
	for _, l := range [][]api.File{inAgain, outsAgain, bAgain.Files} {
		for i := range l[:cap(l)] {
			l[:cap(l)][i] = file("changed", "changed")
		}
	}
	unchanged()
	if !same(in, []api.File{file("b", "3"), file("c", "4"), file("m", "5")}) || !same(outs, b.Files) || outs[0] != file("o", "3") {
		t.Errorf("answers share memory: %v %v %v", in, outs, b)
	}
}
