package build_test

import (
	"crypto/sha256"
	"fmt"
	"reflect"
	"slices"
	"strings"
	"testing"

	"foundry/api"
	"foundry/build"
	"foundry/digest"
)

// action that is right.
func action() api.Action {
	return api.Action{Command: []string{"set a hi", "make o a"}, Input: digest.Sum("x"), Outputs: []string{"o", "p/q"}, Fuel: 300}
}

func TestK1Key(t *testing.T) {
	sum := func(packed string) string { return fmt.Sprintf("%x", sha256.Sum256([]byte(packed))) }
	d := digest.Sum("x")
	for _, c := range []struct {
		a      api.Action
		packed string
	}{
		{action(), "\x02\x08set a hi\x08make o a\x40" + d + "\x02\x01o\x03p/q\xac\x02"},
		{api.Action{Input: d}, "\x00\x40" + d + "\x00\x00"},
	} {
		if k, e := build.Key(c.a); k != sum(c.packed) || e != api.OK {
			t.Errorf("Key(%v) = %s %d, must be %s", c.a, k, e, sum(c.packed))
		}
	}
	var good [9]api.Action
	for i := range good {
		good[i] = action()
	}
	good[1].Command = []string{"set a hi", "make o b"}
	good[2].Command = []string{"set a himake o a"}
	good[3].Command = nil
	good[4].Input = digest.Sum("y")
	good[5].Outputs = []string{"o"}
	good[6].Outputs = nil
	good[7].Fuel = 301
	good[8].Fuel = api.MaxNumber
	keys := map[string]int{}
	for i, a := range good {
		k, e := build.Key(a)
		if j, there := keys[k]; there || !digest.Is(k) || e != api.OK {
			t.Errorf("Key(%v) = %q %d (%d)", a, k, e, j)
		}
		keys[k] = i
	}
}

// wrongActions: what is wrong with an action, and what Action of chapter 2 says of it, step by step.
func wrongActions() [][]spoiler[api.Action] {
	type s = spoiler[api.Action]
	return [][]s{
		{
			{func(a api.Action) api.Action { a.Command = make([]string, api.MaxFiles+1); return a }, api.ErrMany},
			{func(a api.Action) api.Action { a.Command = []string{strings.Repeat("x", api.MaxText+1)}; return a }, api.ErrMany},
		},
		{
			{func(a api.Action) api.Action { a.Input = ""; return a }, api.ErrForm},
			{func(a api.Action) api.Action { a.Input = strings.ToUpper(digest.Sum("x")); return a }, api.ErrForm},
		},
		{
			{func(a api.Action) api.Action { a.Outputs = []string{"p", "o", ""}; return a }, api.ErrForm},
			{func(a api.Action) api.Action { a.Outputs = []string{"p", "o"}; return a }, api.ErrTwice},
			{func(a api.Action) api.Action { a.Outputs = []string{"o", "o"}; return a }, api.ErrTwice},
		},
		{
			{func(a api.Action) api.Action { a.Fuel = -1; return a }, api.ErrRange},
			{func(a api.Action) api.Action { a.Fuel = api.MaxNumber + 1; return a }, api.ErrRange},
		},
	}
}

func TestK1KeyErrors(t *testing.T) {
	eachPair(action(), wrongActions(), func(a api.Action, want api.Errno) {
		if k, e := build.Key(a); e != want || (k == "") != (e != api.OK) {
			t.Errorf("Key(%.200v) = %q %d, must be %d", a, k, e, want)
		}
	})
	a := action()
	a.Outputs = make([]string, api.MaxFiles+1)
	if _, e := build.Key(a); e != api.ErrMany {
		t.Errorf("Key with many outputs: %d", e)
	}
}

// some files of which targets may be made.
func some() []api.File {
	return []api.File{file("a/x", "1"), runFile("a/y", "2"), file("b", "3"), file("c", "4")}
}

func TestK2Plan(t *testing.T) {
	for i, c := range []struct {
		t       api.Target
		made    []api.File
		fuel    int
		outputs string
		in      []api.File
	}{
		{api.Target{}, nil, 0, "", nil},
		{target("t", "", "", "", ""), nil, api.MaxNumber, "", nil},
		{target("t", "b", "", "o", "set a hi"), nil, 7, "o", []api.File{file("b", "3")}},
		{target("t", "c b a/y", "", "z p/q a o", "x; y; x"), nil, 7, "a o p/q z", []api.File{runFile("a/y", "2"), file("b", "3"), file("c", "4")}},
		{target("t", "b c b", "", "a b", ""), nil, 7, "a b", []api.File{file("b", "3"), file("c", "4")}},
		// What was made lies over it, whoever needs it.
		{target("t", "b c", "none", "a", ""), []api.File{file("a", "m"), runFile("b", "n"), file("d/e", "o")}, 7, "a", []api.File{file("a", "m"), runFile("b", "n"), file("c", "4"), file("d/e", "o")}},
		{target("t", "", "", "a", ""), []api.File{file("m", "")}, 7, "a", []api.File{file("m", "")}},
		// A file that is no source is in nobody's way.
		{target("t", "c", "", "b", ""), []api.File{file("a", "m"), file("b/x", "n")}, 7, "b", []api.File{file("a", "m"), file("b/x", "n"), file("c", "4")}},
		// Nobody asks for a name here, nor for lines, nor whether outs meet one another, or what is given.
		{target("No Name", "b", "", "b b/c", "no line"), nil, 7, "b b/c", []api.File{file("b", "3")}},
	} {
		a, in, e := build.Plan(some(), c.t, c.made, c.fuel)
		want := api.Action{Command: c.t.Command, Input: rootOf(c.in...), Outputs: words(c.outputs), Fuel: c.fuel}
		if !sameAction(a, want) || !same(in, c.in) || e != api.OK {
			t.Errorf("%d: Plan: %v %v %d, must be %v %v", i, a, in, e, want, c.in)
		}
	}
}

func TestK2PlanOfTheMost(t *testing.T) {
	var files, made []api.File
	most := target("t", "", "", "", "")
	for i := range api.MaxFiles {
		f := file(fmt.Sprintf("f%02d", i), "")
		files = append(files, f)
		made = append(made, file(f.Path, "m"))
		most.Sources = append(most.Sources, f.Path, f.Path)
		most.Outs = append(most.Outs, f.Path)
		most.Command = append(most.Command, strings.Repeat("x", api.MaxText))
	}
	a, in, e := build.Plan(files, most, made, plenty)
	if e != api.OK || !same(in, made) || len(a.Command) != api.MaxFiles || !same(a.Outputs, most.Outs) || a.Input != rootOf(made...) {
		t.Errorf("Plan of the most: %d files %d", len(in), e)
	}
	if _, in, e := build.Plan(files, most, []api.File{file("g", "")}, plenty); e != api.ErrMany || len(in) > 0 {
		t.Errorf("Plan of one file more: %d files %d", len(in), e)
	}
}

// planned is what is handed to Plan.
type planned struct {
	files []api.File
	t     api.Target
	made  []api.File
	fuel  int
}

// wrongPlans: what is wrong with what Plan is handed, step by step.
func wrongPlans() [][]spoiler[planned] {
	type s = spoiler[planned]
	var files, made []s
	for _, w := range wrongTrees() {
		files = append(files, s{func(p planned) planned { p.files = w.spoil(nil); return p }, w.e})
		made = append(made, s{func(p planned) planned { p.made = w.spoil(nil); return p }, w.e})
	}
	var many []api.File
	for i := range api.MaxFiles {
		many = append(many, file(fmt.Sprintf("m%02d", i), ""))
	}
	return [][]s{
		files,
		made,
		{
			{func(p planned) planned { p.t.Sources = append(p.t.Sources, "none"); return p }, api.ErrNone},
			{func(p planned) planned { p.t.Sources = append(p.t.Sources, "a"); return p }, api.ErrNone},
			{func(p planned) planned { p.t.Sources = append(p.t.Sources, ""); return p }, api.ErrNone},
			// What was made is no file that might be a source.
			{func(p planned) planned { p.t.Sources = append(p.t.Sources, "made"); return p }, api.ErrNone},
		},
		{
			{func(p planned) planned { p.made = []api.File{file("b/c", "")}; return p }, api.ErrTwice},
			{func(p planned) planned { p.made = []api.File{file("a", "")}; return p }, api.ErrTwice},
			{func(p planned) planned { p.made = many; return p }, api.ErrMany},
		},
		{
			{func(p planned) planned { p.t.Command = make([]string, api.MaxFiles+1); return p }, api.ErrMany},
			{func(p planned) planned { p.t.Command = []string{strings.Repeat("x", api.MaxText+1)}; return p }, api.ErrMany},
		},
		{
			{func(p planned) planned { p.t.Outs = words("o /"); return p }, api.ErrForm},
			{func(p planned) planned { p.t.Outs = []string{"o", "o", ""}; return p }, api.ErrForm},
			{func(p planned) planned { p.t.Outs = words("o p o"); return p }, api.ErrTwice},
		},
		{
			{func(p planned) planned { p.fuel = -1; return p }, api.ErrRange},
			{func(p planned) planned { p.fuel = api.MaxNumber + 1; return p }, api.ErrRange},
		},
	}
}

func TestK2PlanErrors(t *testing.T) {
	good := planned{some(), target("t", "a/x b", "", "p o", "set a hi"), []api.File{file("made", "")}, 7}
	eachPair(good, wrongPlans(), func(p planned, want api.Errno) {
		a, in, e := build.Plan(p.files, p.t, p.made, p.fuel)
		if e != want || e != api.OK && (!reflect.DeepEqual(a, api.Action{}) || len(in) > 0) {
			t.Errorf("Plan(%.300v) = %.200v %.200v %d, must be %d", p, a, in, e, want)
		}
	})
	good.t.Outs = make([]string, api.MaxFiles+1)
	if _, _, e := build.Plan(good.files, good.t, good.made, good.fuel); e != api.ErrMany {
		t.Errorf("Plan with many outs: %d", e)
	}
}

func TestK3Do(t *testing.T) {
	in := some()
	for _, c := range []struct {
		command string
		outputs string
		fuel    int
		code    int
		spent   int
		outs    []api.File
	}{
		{"", "", 0, 0, 0, nil},
		{"", "", plenty, 0, 0, nil},
		{"read a b; make o a", "o", plenty, 0, 2, []api.File{file("o", "3")}},
		{"read a b; make o a", "o", 2, 0, 2, []api.File{file("o", "3")}},
		{"read a b; run p/q a; make o a", "o p/q", plenty, 0, 3, []api.File{file("o", "3"), runFile("p/q", "3")}},
		// Nothing but Outputs, whatever else is made, and though it is given.
		{"read a b; make n a; make o a; make p/q a; make z a", "o", plenty, 0, 5, []api.File{file("o", "3")}},
		{"make o a; make p a", "", plenty, 0, 2, nil},
		{"set a 5; make b a", "b", plenty, 0, 2, []api.File{file("b", "5")}},
		// What is given was not made.
		{"", "b", plenty, api.CodeOutput, 0, nil},
		{"make o a", "n o", plenty, api.CodeOutput, 1, nil},
		{"make o a", "o z", plenty, api.CodeOutput, 1, nil},
		{"make o/p a", "o", plenty, api.CodeOutput, 1, nil},
		{"make o a", "o/p", plenty, api.CodeOutput, 1, nil},
		{"make o a; exit 0; make p a", "o p", plenty, api.CodeOutput, 2, nil},
		{"make o a; exit 0; make p a", "o", plenty, 0, 2, []api.File{file("o", "")}},
		// However it ended, if not with 0, nothing comes of it.
		{"make o a; exit 9", "o", plenty, 9, 2, nil},
		{"exit 9", "o", plenty, 9, 1, nil},
		{"exit 99", "", plenty, 99, 1, nil},
		{"make o a; read a none", "o", plenty, api.CodeNone, 2, nil},
		{"make o a; make o/p a", "o o/p", plenty, api.CodePath, 2, nil},
		{"make o a; goto 0", "o", 9, api.CodeFuel, 9, nil},
		{"make o a; make p a", "o p", 1, api.CodeFuel, 1, nil},
		{"make o a", "o p", 0, api.CodeFuel, 0, nil},
		{"set a 0123456789; join a a; join a a; join a a; join a a; join a a; join a a; join a a; join a a; join a a; join a a; join a a; join a a; join a a; join a a", "", plenty, api.CodeLong, 10253, nil},
		{"goto 0", "", api.MaxFuel, api.CodeFuel, api.MaxFuel, nil},
	} {
		a := api.Action{Command: lines(c.command), Input: rootOf(in...), Outputs: words(c.outputs), Fuel: c.fuel}
		want := api.Result{Code: c.code, Output: rootOf(c.outs...), Spent: c.spent}
		r, outs, e := build.Do(in, a)
		if r != want || !same(outs, c.outs) || e != api.OK {
			t.Errorf("Do(%q, %s, %d) = %v %v %d, must be %v %v", c.command, c.outputs, c.fuel, r, outs, e, want, c.outs)
		}
	}
}

// doing is what is handed to Do.
type doing struct {
	in []api.File
	a  api.Action
}

func wrongDoings() [][]spoiler[doing] {
	type s = spoiler[doing]
	var trees []s
	for _, w := range wrongTrees() {
		trees = append(trees, s{func(d doing) doing { d.in = w.spoil(nil); return d }, w.e})
	}
	steps := [][]s{trees}
	for _, wrong := range wrongActions() {
		var actions []s
		for _, w := range wrong {
			actions = append(actions, s{func(d doing) doing { d.a = w.spoil(d.a); return d }, w.e})
		}
		steps = append(steps, actions)
	}
	return append(steps,
		[]s{
			{func(d doing) doing { d.in = append(slices.Clone(d.in), file("z", "")); return d }, api.ErrState},
			{func(d doing) doing { d.in = nil; return d }, api.ErrState},
			{func(d doing) doing { d.in = slices.Clone(d.in); d.in[0].Run = true; return d }, api.ErrState},
			{func(d doing) doing { d.a.Input = digest.Sum("other"); return d }, api.ErrState},
		},
		[]s{
			{func(d doing) doing { d.a.Command = []string{"no line"}; return d }, api.ErrForm},
			{func(d doing) doing { d.a.Command = []string{"exit 3", "goto 3"}; return d }, api.ErrForm},
		},
		[]s{
			{func(d doing) doing { d.a.Fuel = api.MaxFuel + 1; return d }, api.ErrRange},
			{func(d doing) doing { d.a.Fuel = api.MaxNumber; return d }, api.ErrRange},
		},
	)
}

func TestK3DoErrors(t *testing.T) {
	a := action()
	a.Input = rootOf(some()...)
	a.Outputs = []string{"o"}
	eachPair(doing{some(), a}, wrongDoings(), func(d doing, want api.Errno) {
		r, outs, e := build.Do(d.in, d.a)
		if e != want || e != api.OK && (r != api.Result{} || len(outs) > 0) {
			t.Errorf("Do(%.300v) = %v %.200v %d, must be %d", d, r, outs, e, want)
		}
	})
	a.Fuel = api.MaxFuel
	if r, _, e := build.Do(some(), a); r.Code != 0 || r.Spent != 2 || e != api.OK {
		t.Errorf("Do with the most fuel: %v %d", r, e)
	}
}

func TestK1K2K3WhatIsPlannedIsDone(t *testing.T) {
	files := some()
	one := target("t", "a/x", "", "o", "read a a/x; read b m; join a b; make o a")
	a, in, e := build.Plan(files, one, []api.File{file("m", "5")}, plenty)
	r, outs, f := build.Do(in, a)
	if e != api.OK || f != api.OK || r != (api.Result{Code: 0, Output: rootOf(file("o", "15")), Spent: 4}) || !same(outs, []api.File{file("o", "15")}) {
		t.Errorf("Do: %v %v %d %d", r, outs, e, f)
	}
	// Another text of a source is another action; another file that is none is the same one.
	k, _ := build.Key(a)
	files[0].Text = "other"
	b, _, _ := build.Plan(files, one, []api.File{file("m", "5")}, plenty)
	if other, _ := build.Key(b); other == k {
		t.Errorf("two actions have one key")
	}
	files = some()
	files[2].Text = "other"
	b, _, _ = build.Plan(files, one, []api.File{file("m", "5")}, plenty)
	if again, _ := build.Key(b); again != k || !sameAction(a, b) {
		t.Errorf("one action has two keys: %v %v", a, b)
	}
}
