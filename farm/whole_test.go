package farm_test

import (
	"fmt"
	"reflect"
	"slices"
	"strings"
	"testing"

	"foundry/api"
	"foundry/build"
	"foundry/cas"
	"foundry/digest"
	"foundry/eval"
	"foundry/farm"
	"foundry/log"
	"foundry/queue"
	"foundry/syntax"
	"foundry/tree"
)

func TestP1FarmsThatNewDidNotMake(t *testing.T) {
	for _, f := range []*farm.Farm{nil, {}} {
		for range 2 {
			plays(t, f, `
				report: 5
				log:
				ran: 0
				tick 5: 0
				tick -1: 3
				tick 1000001: 3
				ask 1: 5
				ask 0: 3
				work 1: 5
				crash 1: 0
				crash 51: 3
				lose 1: 5
				twice 1: 5
				reboot -1: 3
				reboot 0: 0
				reboot 5: 0`)
			if e := f.Step(api.Event{}); e != api.ErrKind {
				t.Errorf("Step of no kind: %d", e)
			}
		}
	}
}

// TestP1WrongLogs: Again ends, whatever its log is.
func TestP1WrongLogs(t *testing.T) {
	o := order("top", terms(), diamond()...)
	whole := worked(t, o).Log()
	d := draw(3)
	for range 2000 {
		s := []byte(whole)
		for range 1 + d.below(3) {
			s[d.below(len(s))] = byte(d.below(256))
		}
		f := again(t, o, string(s[d.below(2)*d.below(len(s)):]))
		if !strings.HasPrefix(whole, f.Log()) || len(names(f.Log())) != f.Ran() {
			t.Fatalf("Again of %q: %q", s, f.Log())
		}
	}
}

func TestP2OnlyReadAndNew(t *testing.T) {
	spare := func() []api.File {
		return append(make([]api.File, 0, 8), order("top", terms(), diamond()...).Files...)
	}
	o := order("top", terms(), diamond()...)
	o.Files = spare()
	f := newFarm(t, o)
	g := again(t, o, f.Log())
	if !reflect.DeepEqual(o.Files[:8], spare()[:8]) {
		t.Fatalf("files became %v", o.Files[:8])
	}
	// What is changed then is no matter to the farm, nor what is done with its answers.
	for i := range o.Files[:8] {
		o.Files[:8][i] = file("changed", "changed")
	}
	for _, one := range []*farm.Farm{f, g} {
		for range 4 {
			plays(t, one, "ask 1: 0\nwork 1: 0")
		}
		for range 2 {
			b, e := one.Report()
			if want := (api.Built{Files: []api.File{file("o/top", "seedLseedR")}, Ran: 4}); !reflect.DeepEqual(b, want) || e != api.OK {
				t.Fatalf("Report: %v %d, must be %v", b, e, want)
			}
			for i := range b.Files[:cap(b.Files)] {
				b.Files[:cap(b.Files)][i] = file("changed", "changed")
			}
		}
		plays(t, one, "reboot 0: 0\nreport: 0 o/top=seedLseedR ran 4\nreboot 1: 0\nask 1: 0\nwork 1: 0\nreport: 0 o/top=seedLseedR ran 4")
	}
}

// TestP3TwoFarms do not know of each other; and what is asked twice is answered twice.
func TestP3TwoFarms(t *testing.T) {
	f, g := newFarm(t, order("top", terms(), diamond()...)), newFarm(t, order("top", terms(), diamond()...))
	plays(t, f, "ask 1: 0\ntick 1: 0")
	plays(t, g, "work 1: 5\nask 2: 0\nwork 2: 0\nask 1: 0\nran: 1")
	plays(t, f, "ran: 0\nlog:\nwork 1: 0\nlog: base\nlog: base\nran: 1\nreport: 5\nreport: 5\ntwice 2: 5")
	plays(t, g, "log: base\nwork 1: 0\nlog: base l\ntwice 2: 0")
}

// What the whole promises, from one layer to the other.

// TestWholeTrees: trees that have one root are one, and each is flattened as it was; what is pinned is there until it is unpinned.
func TestWholeTrees(t *testing.T) {
	d := draw(4)
	roots := map[string][]api.File{}
	for range 300 {
		var l []api.File
		for _, path := range []string{"a", "b/c", "b/d/e", "b/d/f", "g"} {
			if d.below(2) == 0 {
				l = append(l, api.File{Path: path, Text: d.of("", "x", "y"), Run: d.below(2) == 0})
			}
		}
		root, _ := tree.Root(l)
		if was, there := roots[root]; there && !slices.Equal(was, l) {
			t.Fatalf("%v and %v have one root", was, l)
		}
		roots[root] = l
		blobs, _ := tree.Blobs(l)
		store, _ := cas.New(len(strings.Join(blobs, "")) + 10)
		var sums []string
		for _, blob := range blobs {
			sum, _ := store.Put(blob)
			store.Pin(sum)
			sums = append(sums, sum)
		}
		for i := range 50 {
			store.Put(fmt.Sprint("other", i))
		}
		var got []string
		for _, sum := range sums {
			text, e := store.Get(sum)
			if e != api.OK {
				t.Fatalf("a text that is pinned is gone: %d", e)
			}
			got = append(got, text)
		}
		if flat, e := tree.Flat(root, got); e != api.OK || !slices.Equal(flat, l) {
			t.Fatalf("Flat: %v %d, must be %v", flat, e, l)
		}
		for _, sum := range sums {
			store.Unpin(sum)
		}
		for i := range 200 {
			store.Put(fmt.Sprint("more", i))
		}
		for _, sum := range sums {
			if found, _ := store.Find(sum); sum != digest.Sum("") && found.There {
				t.Fatalf("what is not pinned any more stays: %v", found)
			}
		}
	}
}

// TestWholeLog: a log that is cut off anywhere has the entries that were whole, and so has a farm.
func TestWholeLog(t *testing.T) {
	d := draw(5)
	for range 60 {
		o := drawnOrder(&d)
		f := worked(t, o)
		whole := f.Log()
		entries, _ := log.Read(whole)
		cut := d.below(len(whole) + 1)
		kept := 0
		for len(logOf(entries[:kept]...)) <= cut && kept < len(entries) && len(logOf(entries[:kept+1]...)) <= cut {
			kept++
		}
		if g := again(t, o, whole[:cut]); g.Ran() != kept || g.Log() != logOf(entries[:kept]...) {
			t.Fatalf("Again of %d bytes: %d entries, must be %d", cut, g.Ran(), kept)
		}
	}
}

// TestWholeCanon: a source, and what Canon makes of it, come to the same with as much fuel, build the same, and are built alike by a farm.
func TestWholeCanon(t *testing.T) {
	d := draw(6)
	for range 100 {
		o := drawnOrder(&d)
		canon, fault := syntax.Canon(o.Files[0].Text)
		if fault.Err != api.OK {
			t.Fatalf("Canon: %v", fault)
		}
		x := o
		x.Files = []api.File{file("main", canon), o.Files[1]}
		a, b, burnt, e := eval.Run(o.Files, "main", plenty)
		p, q, other, f := eval.Run(x.Files, "main", plenty)
		if !reflect.DeepEqual(a, p) || !reflect.DeepEqual(b, q) || burnt != other || e != f {
			t.Fatalf("Run: %v %v %d %d, then %v %v %d %d", a, b, burnt, e, p, q, other, f)
		}
		if g, h := worked(t, o), worked(t, x); say(g, "report") != say(h, "report") || g.Log() != h.Log() {
			t.Fatalf("%s is built to %s, and %s to %s", o.Files[0].Text, say(g, "report"), canon, say(h, "report"))
		}
	}
}

// TestWholeOrderOfTargets: however they are ordered in their source, and whatever file there is that nobody asks for, a farm reports the same, of the same actions.
func TestWholeOrderOfTargets(t *testing.T) {
	d := draw(7)
	for range 100 {
		o := drawnOrder(&d)
		x := o
		rules := strings.SplitAfter(strings.TrimSuffix(o.Files[0].Text, "\n"), "\n")
		rules[len(rules)-1] += "\n"
		shuffle(&d, rules)
		x.Files = []api.File{file("main", strings.Join(rules, "")), file("nobody", "asks"), o.Files[1]}
		if f, g := worked(t, o), worked(t, x); say(f, "report") != say(g, "report") || f.Log() != g.Log() {
			t.Fatalf("%s is built to %s, then to %s", o.Files[0].Text, say(f, "report"), say(g, "report"))
		}
		b, e := build.Build(o.Files, o.Path, o.Name, o.Fuel)
		targets, _, _, _ := eval.Run(o.Files, o.Path, o.Fuel)
		i := slices.IndexFunc(targets, func(t api.Target) bool { return t.Name == o.Name })
		if e != api.OK || b.Failed != "" {
			continue
		}
		// It makes just its Outs.
		var paths []string
		for _, f := range b.Files {
			paths = append(paths, f.Path)
		}
		if !slices.Equal(paths, slices.Sorted(slices.Values(targets[i].Outs))) {
			t.Fatalf("%s made %q", rule(targets[i]), paths)
		}
	}
}

// TestWholeTurnsAndLeases: jobs of a queue are lent out, each to as many as may have it; of two tenants who always have some none gets much ahead.
func TestWholeTurnsAndLeases(t *testing.T) {
	turns, _ := queue.New(10)
	got := [3]int{}
	put := func(tenant, i int) {
		if e := turns.Put(api.Job{Tenant: tenant, Name: fmt.Sprintf("t%d-%d", tenant, i), Cost: 1 + 6*tenant}); e != api.OK {
			t.Fatalf("Put: %d", e)
		}
	}
	for i := range 3 {
		put(1, i)
		put(2, i)
	}
	for i := 3; i < 300; i++ {
		j, there := turns.Next()
		if !there {
			t.Fatalf("there is no next job")
		}
		got[j.Tenant] += j.Cost
		put(j.Tenant, i)
		if ahead := got[1] - got[2]; ahead > 10+13 || -ahead > 10+13 {
			t.Fatalf("they got %v", got[1:])
		}
		f := newFarm(t, order("t", api.Terms{Last: 4, Tries: 9, Twins: 1 + i%3}, target("t", "", "", "", "")))
		lent := 0
		for worker := 1; worker <= 5; worker++ {
			if say(f, fmt.Sprint("ask ", worker)) == "0" {
				lent++
			}
		}
		if lent != 1+i%3 {
			t.Fatalf("%d have a job that %d may have", lent, 1+i%3)
		}
	}
}

// TestN5Example: two targets, one worker, who asks and works twice: the farm reports.
func TestN5Example(t *testing.T) {
	plays(t, newFarm(t, order("t", terms(), target("t", "", "u", "o", "read a p; make o a"), target("u", "", "", "p", "set a hi; make p a"))), `
		ask 1: 0
		work 1: 0
		report: 5
		ask 1: 0
		work 1: 0
		report: 0 o=hi ran 2`)
}
