package build_test

import (
	"cmp"
	"fmt"
	"maps"
	"slices"
	"testing"

	"foundry/api"
	"foundry/build"
	"foundry/eval"
	"foundry/graph"
	"foundry/sandbox"
	"foundry/syntax"
)

// drawnFiles: those that targets may have as sources.
func drawnFiles() []api.File {
	return []api.File{file("s/1", "one"), runFile("s/2", "two"), file("s/3", ""), file("x", "0123456789abcdef")}
}

// paths that are sources.
func paths() []string { return words("s/1 s/2 s/3 x") }

// drawnTarget that needs some of those ahead of it.
func drawnTarget(d *draw, name string, ahead []api.Target) api.Target {
	t := api.Target{Name: name}
	for range d.below(3) {
		t.Sources = append(t.Sources, d.of(paths()...))
	}
	reads := slices.Clone(t.Sources)
	for range d.below(3) {
		if len(ahead) > 0 {
			need := ahead[d.below(len(ahead))]
			t.Needs = append(t.Needs, need.Name)
			reads = append(reads, need.Outs...)
		}
	}
	for i := range d.below(3) {
		t.Outs = append(t.Outs, fmt.Sprintf("%s/%d", name, 2-i))
	}
	for range d.below(3) {
		if len(reads) > 0 {
			t.Command = append(t.Command, "read b "+d.of(reads...), "join a b")
		}
	}
	if d.below(3) == 0 {
		t.Command = append(t.Command, "list b .", "join a b")
	}
	for _, out := range t.Outs {
		t.Command = append(t.Command, d.of("make ", "run ")+out+" a")
	}
	if d.below(4) == 0 {
		t.Command = append(t.Command, "make "+d.of("more", "x", name+"/more")+" a")
	}
	return spoilt(d, t)
}

// spoilt target, now and then: so that it ends otherwise, or has an error.
func spoilt(d *draw, t api.Target) api.Target {
	switch d.below(60) {
	case 0:
		t.Command = append(t.Command, fmt.Sprintf("exit %d", d.below(4)))
	case 1:
		t.Command = append([]string{"goto 0"}, t.Command...)
	case 2:
		t.Command = append(t.Command, "no line")
	case 3:
		t.Outs = append(t.Outs, t.Name+"/not-made")
	case 4:
		t.Command = append(t.Command, "read a "+d.of("none", "x", "s/1"))
	}
	return t
}

// drawnTargets, in no order.
func drawnTargets(d *draw) []api.Target {
	var l []api.Target
	for i := range 1 + d.below(8) {
		l = append(l, drawnTarget(d, fmt.Sprintf("%c%d", 'a'+byte(d.below(26)), i), l))
	}
	shuffle(d, l)
	return l
}

// coneOf targets: the names of those that one needs, and its own: one after the other the least one all of whose needs are there.
func coneOf(targets map[string]api.Target, name string) []string {
	in := map[string]struct{}{name: {}}
	for range targets {
		for x := range maps.Clone(in) {
			for _, need := range targets[x].Needs {
				in[need] = struct{}{}
			}
		}
	}
	var order []string
	for range len(in) {
		for _, x := range slices.Sorted(maps.Keys(in)) {
			isAwaited := func(need string) bool { return !slices.Contains(order, need) }
			if isAwaited(x) && !slices.ContainsFunc(targets[x].Needs, isAwaited) {
				order = append(order, x)
				break
			}
		}
	}
	return order
}

// built is what one has to come to, by a map of all that lies at paths.
func built(files []api.File, l []api.Target, name string, fuel int) (api.Built, api.Errno) {
	targets := map[string]api.Target{}
	for _, t := range l {
		targets[t.Name] = t
	}
	at := map[string]api.File{}
	for _, f := range files {
		at[f.Path] = f
	}
	ran := 0
	for _, x := range coneOf(targets, name) {
		t := targets[x]
		given := map[string]api.File{}
		for _, path := range t.Sources {
			given[path] = at[path]
		}
		for _, need := range t.Needs {
			for _, out := range targets[need].Outs {
				given[out] = at[out]
			}
		}
		in := slices.SortedFunc(maps.Values(given), func(f, g api.File) int { return cmp.Compare(f.Path, g.Path) })
		made, code, _, e := sandbox.Run(in, t.Command, fuel)
		if e != api.OK {
			return api.Built{}, e
		}
		ran++
		left := len(t.Outs)
		for _, f := range made {
			if slices.Contains(t.Outs, f.Path) {
				at[f.Path] = f
				left--
			}
		}
		if code == 0 && left > 0 {
			code = api.CodeOutput
		}
		if code != 0 {
			return api.Built{Failed: x, Code: code, Ran: ran}, api.OK
		}
	}
	var outs []api.File
	for _, out := range slices.Sorted(slices.Values(targets[name].Outs)) {
		outs = append(outs, at[out])
	}
	return api.Built{Files: outs, Ran: ran}, api.OK
}

func TestK4K5DrawnAgainstModel(t *testing.T) {
	d := draw(1)
	ends := map[string]int{}
	for range 4000 {
		targets := drawnTargets(&d)
		files := with(drawnFiles(), targets...)
		name := targets[d.below(len(targets))].Name
		fuel := []int{d.below(200), plenty, plenty, plenty}[d.below(4)]
		_, _, _, e := eval.Run(files, "main", fuel)
		want := api.Built{}
		if e == api.OK {
			want, e = built(files, targets, name, fuel)
		}
		got, f := build.Build(files, "main", name, fuel)
		if !sameBuilt(got, want) || f != e {
			t.Fatalf("Build of %s in\n%s with %d: %v %d, must be %v %d", name, mainOf(files).Text, fuel, got, f, want, e)
		}
		ends[fmt.Sprint(got.Code, f)]++
		if f == api.OK && got.Failed == "" && got.Ran > 2 {
			ends["many"]++
		}
		otherOrder(t, &d, targets, name, fuel, got, f)
		otherFiles(t, &d, files, targets, name, fuel, got, f)
		asWritten(t, files, name, fuel, got, f)
		nothingButOuts(t, targets, name, got)
	}
	for _, end := range []string{"0 0", "1 0", "101 0", "104 0", "105 0", "0 1", "0 9", "many"} {
		if ends[end] < 20 {
			t.Errorf("%d end with %s: that is no test (%v)", ends[end], end, ends)
		}
	}
}

func mainOf(files []api.File) *api.File {
	return &files[slices.IndexFunc(files, func(f api.File) bool { return f.Path == "main" })]
}

// otherOrder of targets in their source: it comes to the same.
func otherOrder(t *testing.T, d *draw, targets []api.Target, name string, fuel int, want api.Built, e api.Errno) {
	t.Helper()
	other := slices.Clone(targets)
	shuffle(d, other)
	got, f := build.Build(with(drawnFiles(), other...), "main", name, fuel)
	if !sameBuilt(got, want) || f != e {
		t.Fatalf("Build of %s in another order: %v %d, and was %v %d", name, got, f, want, e)
	}
}

// otherFiles, which nobody in the cone has among its Sources, do not matter.
func otherFiles(t *testing.T, d *draw, files []api.File, targets []api.Target, name string, fuel int, want api.Built, e api.Errno) {
	t.Helper()
	cone, _ := graph.Cone(targets, name)
	isSource := func(path string) bool {
		return path == "main" || slices.ContainsFunc(targets, func(t api.Target) bool {
			return slices.Contains(cone, t.Name) && slices.Contains(t.Sources, path)
		})
	}
	others := slices.Clone(files)
	for i, f := range others {
		if !isSource(f.Path) {
			others[i] = api.File{Path: f.Path, Text: "other", Run: !f.Run}
		}
	}
	more := append(others, file("zz/"+d.of("a", "b"), "more"))
	got, f := build.Build(more, "main", name, fuel)
	if !sameBuilt(got, want) || f != e {
		t.Fatalf("Build of %s with other files: %v %d, and was %v %d", name, got, f, want, e)
	}
}

// asWritten by Canon a source builds the same.
func asWritten(t *testing.T, files []api.File, name string, fuel int, want api.Built, e api.Errno) {
	t.Helper()
	canon, fault := syntax.Canon(mainOf(files).Text)
	if fault.Err != api.OK {
		t.Fatalf("Canon: %v", fault)
	}
	written := slices.Clone(files)
	mainOf(written).Text = canon
	got, f := build.Build(written, "main", name, fuel)
	if !sameBuilt(got, want) || f != e {
		t.Fatalf("Build of %s as Canon writes it: %v %d, and was %v %d", name, got, f, want, e)
	}
}

// nothingButOuts is what a target makes, and, if it does not fail, all of them.
func nothingButOuts(t *testing.T, targets []api.Target, name string, got api.Built) {
	t.Helper()
	if len(got.Files) == 0 {
		return
	}
	i := slices.IndexFunc(targets, func(t api.Target) bool { return t.Name == name })
	var paths []string
	for _, f := range got.Files {
		paths = append(paths, f.Path)
	}
	if !slices.Equal(paths, slices.Sorted(slices.Values(targets[i].Outs))) {
		t.Fatalf("%s made %q, and its outs are %q", name, paths, targets[i].Outs)
	}
}

// TestK1K3DrawnKeys: an action's key tells what it will come to.
func TestK1K3DrawnKeys(t *testing.T) {
	d := draw(2)
	type told struct {
		result api.Result
		outs   []api.File
		e      api.Errno
	}
	known := map[string]told{}
	again := 0
	for range 5000 {
		files := drawnFiles()
		files[d.below(len(files))].Text = d.of("0", "1")
		one := spoilt(&d, target("t", d.of(paths()...), "", "o", d.of("list a .", "list a s", "set a x", "read a x", "read a s/1")+"; make o a"))
		a, in, e := build.Plan(files, one, nil, []int{1, 10, plenty}[d.below(3)])
		if e != api.OK {
			t.Fatalf("Plan: %d", e)
		}
		k, _ := build.Key(a)
		result, outs, e := build.Do(in, a)
		was, there := known[k]
		if there && (was.result != result || !same(was.outs, outs) || was.e != e) {
			t.Fatalf("%v: %v %v %d, and was %v", a, result, outs, e, was)
		}
		if there {
			again++
		}
		known[k] = told{result, outs, e}
	}
	if again < 1000 || len(known) < 100 {
		t.Errorf("%d keys, %d came again: that is no test", len(known), again)
	}
}
