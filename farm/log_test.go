package farm_test

import (
	"fmt"
	"slices"
	"strings"
	"testing"

	"foundry/api"
	"foundry/build"
	"foundry/digest"
	"foundry/farm"
	"foundry/log"
	"foundry/tree"
	"foundry/wire"
)

// entry of a log: a target's name, its action's key, and a result.
func entry(name, key string, r api.Result) string {
	packed, e := wire.Result(r)
	if e != api.OK {
		panic("no result")
	}
	s, _ := wire.Texts([]string{name, key, packed})
	return s
}

// logOf entries.
func logOf(l ...string) string {
	s := ""
	for _, one := range l {
		s, _ = log.Append(s, one)
	}
	return s
}

// worked is a farm for which one worker asks and works in turns, till it ends.
func worked(t *testing.T, o api.Order) *farm.Farm {
	t.Helper()
	f := newFarm(t, o)
	for range api.MaxFiles + 1 {
		say(f, "ask 1")
		say(f, "work 1")
	}
	return f
}

func again(t *testing.T, o api.Order, s string) *farm.Farm {
	t.Helper()
	f, e := farm.Again(o, s)
	if f == nil || e != api.OK {
		t.Fatalf("Again: %v %d", f, e)
	}
	return f
}

func TestN3Entries(t *testing.T) {
	o := order("bad", terms(), target("bad", "", "base", "o/bad", "make o/bad a; exit 7"), diamond()[3])
	base := []api.File{file("o/base", "seed")}
	root := func(l []api.File) string {
		s, e := tree.Root(l)
		if e != api.OK {
			panic("no tree")
		}
		return s
	}
	first := api.Action{Command: []string{"read a s", "make o/base a"}, Input: root(o.Files[1:]), Outputs: []string{"o/base"}, Fuel: plenty}
	second := api.Action{Command: []string{"make o/bad a", "exit 7"}, Input: root(base), Outputs: []string{"o/bad"}, Fuel: plenty}
	k, _ := build.Key(first)
	l, _ := build.Key(second)
	want := logOf(entry("base", k, api.Result{Output: root(base), Spent: 2}), entry("bad", l, api.Result{Code: 7, Output: root(nil), Spent: 2}))
	if got := worked(t, o).Log(); got != want {
		t.Errorf("the log is %q, must be %q", got, want)
	}
	// To the byte: `L`, how long it is, its three texts, and its check.
	packed := "\x03" + "\x04base" + "\x40" + k + "\x43" + "\x00\x40" + root(base) + "\x02"
	if got := worked(t, o).Log(); !strings.HasPrefix(got, "L\x8b\x01"+packed) || len(packed) != 139 {
		t.Errorf("the log is %q, must begin with %q", got, packed)
	}
	// An error is no entry.
	plays(t, worked(t, order("wrong", terms(), target("wrong", "", "base", "", "no"), diamond()[3])), "log: base\nran: 1\nreport: 1")
}

func TestN3AgainOfAllThatWasCut(t *testing.T) {
	for _, name := range []string{"top", "bad"} {
		o := order(name, terms(), append(diamond(), target("bad", "", "l", "", "exit 3"))...)
		f := worked(t, o)
		whole := f.Log()
		ends := []int{0}
		entries, _ := log.Read(whole)
		for i := range entries {
			ends = append(ends, len(logOf(entries[:i+1]...)))
		}
		for cut := 0; cut <= len(whole); cut++ {
			kept := 0
			for _, end := range ends {
				if end <= cut {
					kept = end
				}
			}
			g := again(t, o, whole[:cut])
			if g.Log() != whole[:kept] || g.Ran() != slices.Index(ends, kept) {
				t.Fatalf("Again of the first %d bytes: %d entries, %d bytes; must be %d", cut, g.Ran(), len(g.Log()), kept)
			}
			want := "5"
			if kept == len(whole) {
				want = say(f, "report")
			}
			plays(t, g, "report: "+want)
			h := worked(t, o)
			plays(t, h, fmt.Sprintf("reboot %d: 0\nreport: %s\nran: %d", len(whole)-cut, want, g.Ran()))
			if h.Log() != g.Log() {
				t.Fatalf("a reboot without %d bytes: the log has %d, must be %d", len(whole)-cut, len(h.Log()), kept)
			}
		}
		// What it was built to is built again.
		g := again(t, o, whole[:ends[1]])
		for range 4 {
			say(g, "ask 1")
			say(g, "work 1")
		}
		plays(t, g, "report: "+say(f, "report"))
		if g.Log() != whole {
			t.Errorf("then the log is %q, and was %q", g.Log(), whole)
		}
	}
}

// TestN3AgainEndsAtTheFirstWrongEntry: those behind it are left out, however right they are.
func TestN3AgainEndsAtTheFirstWrongEntry(t *testing.T) {
	o := order("top", api.Terms{Last: 4, Tries: 1, Twins: 1}, append(diamond(), target("free", "", "", "", ""), target("wrong", "", "", "", "no"))...)
	entries, _ := log.Read(worked(t, o).Log())
	base, l, r, top := entries[0], entries[1], entries[2], entries[3]
	other := func(s string, spoil func(name, key *string, result *api.Result)) string {
		parts, _ := wire.ReadTexts(s)
		result, _ := wire.ReadResult(parts[2])
		spoil(&parts[0], &parts[1], &result)
		return entry(parts[0], parts[1], result)
	}
	free, _ := log.Read(worked(t, api.Order{Files: o.Files, Path: "main", Name: "free", Fuel: plenty, Terms: terms()}).Log())
	packed := func(l ...string) string {
		s, _ := wire.Texts(l)
		return s
	}
	parts, _ := wire.ReadTexts(l)
	for i, c := range []struct {
		entries []string
		kept    int
	}{
		{[]string{base, r, l, top}, 4},
		{[]string{base, l, r, top}, 4},
		{nil, 0},
		// A target that is not ready: a need is missing, or it is done, or is not in the cone, or there is none.
		{[]string{l, base, r, top}, 0},
		{[]string{base, r, top, l, top}, 2},
		{[]string{base, base, l, r, top}, 1},
		{[]string{base, l, l, r, top}, 2},
		{[]string{base, l, r, top, top}, 4},
		{[]string{base, free[0], l, r}, 1},
		{[]string{base, other(l, func(name, _ *string, _ *api.Result) { *name = "none" }), r}, 1},
		{[]string{base, other(l, func(name, _ *string, _ *api.Result) { *name = "" }), r}, 1},
		{[]string{base, other(l, func(name, _ *string, _ *api.Result) { *name = "wrong" }), r}, 1},
		// Another Key, or another Result.
		{[]string{base, other(l, func(_, key *string, _ *api.Result) { *key = digest.Sum("") }), r}, 1},
		{[]string{base, other(l, func(_, key *string, _ *api.Result) { *key = strings.ToUpper(*key) }), r}, 1},
		{[]string{base, other(l, func(name, _ *string, _ *api.Result) { *name = "r" }), r}, 1},
		{[]string{base, other(l, func(_, _ *string, result *api.Result) { result.Code = 1 }), r}, 1},
		{[]string{base, other(l, func(_, _ *string, result *api.Result) { result.Spent++ }), r}, 1},
		{[]string{base, other(l, func(_, _ *string, result *api.Result) { result.Output = digest.Sum("") }), r}, 1},
		// Texts that are no entry of a farm.
		{[]string{base, "", r}, 1},
		{[]string{base, "l", r}, 1},
		{[]string{base, packed(), r}, 1},
		{[]string{base, packed("l"), r}, 1},
		{[]string{base, packed(parts[:2]...), r}, 1},
		{[]string{base, packed(append(parts[:3:3], "")...), r}, 1},
		{[]string{base, packed(parts[0], parts[1], ""), r}, 1},
		{[]string{base, packed(parts[0], parts[1], parts[2]+"\x00"), r}, 1},
		{[]string{base, l + "\x00", r}, 1},
		{[]string{base, l[1:], r}, 1},
		{[]string{base, strings.Repeat("\xff", 1000), r}, 1},
	} {
		for _, torn := range []string{"", "torn", "L", "L\x05four"} {
			f := again(t, o, logOf(c.entries...)+torn)
			if f.Log() != logOf(c.entries[:c.kept]...) || f.Ran() != c.kept {
				t.Errorf("%d: Again: %q", i, names(f.Log()))
			}
		}
		// Each of those that are left may be tried, anew.
		f := again(t, o, logOf(c.entries...))
		for range 4 - c.kept {
			plays(t, f, "report: 5\nask 1: 0\nwork 1: 0")
		}
		plays(t, f, "report: 0 o/top=seedLseedR ran 4\nran: 4")
	}
	// What is behind a torn entry is left out, too.
	f := again(t, o, logOf(base)+"torn"+logOf(l, r))
	plays(t, f, "log: base")
}

// TestN3AgainOfErrors: an error is noted as it is asked for, not as a log is read.
func TestN3AgainOfErrors(t *testing.T) {
	o := order("wrong", terms(), target("wrong", "", "base", "", "no"), diamond()[3])
	f := worked(t, o)
	plays(t, f, "report: 1\nreboot 0: 0\nreport: 5\nlog: base\nask 1: 0\nwork 1: 0\nreport: 1")
	s := logOf(entry("wrong", digest.Sum(""), api.Result{Output: digest.Sum("")}))
	plays(t, again(t, o, f.Log()+s), "report: 5\nlog: base\nask 1: 0\nwork 1: 0\nreport: 1")
	o = order("many", terms(), many()...)
	f = worked(t, o)
	s = logOf(entry("many", digest.Sum(""), api.Result{Output: digest.Sum("")}))
	plays(t, f, "report: 2\nreboot 0: 0\nreport: 5\nran: 2\nask 1: 0\nreport: 2")
	plays(t, again(t, o, f.Log()+s), "report: 5\nlog: m1 m2\nask 1: 0\nreport: 2")
}

// TestN3AnotherOrder: a log tells nothing of actions that are others now.
func TestN3AnotherOrder(t *testing.T) {
	o := order("top", terms(), diamond()...)
	whole := worked(t, o).Log()
	for _, c := range []struct {
		spoil func(*api.Order)
		ran   int
	}{
		{func(o *api.Order) {}, 4},
		{func(o *api.Order) { o.Terms.Tries = 1 }, 4},
		{func(o *api.Order) { o.Files = append(o.Files, file("z", "")) }, 4},
		{func(o *api.Order) { o.Files[1].Text = "other" }, 0},
		{func(o *api.Order) { o.Files[1].Run = true }, 0},
		{func(o *api.Order) { o.Fuel-- }, 0},
		{func(o *api.Order) { o.Files[0].Text = strings.ReplaceAll(o.Files[0].Text, "set b R", "set b S") }, 2},
		{func(o *api.Order) { o.Files[0].Text = strings.ReplaceAll(o.Files[0].Text, "set b L", "set b K") }, 1},
		{func(o *api.Order) { o.Name = "l" }, 2},
		{func(o *api.Order) { o.Name = "r" }, 1},
	} {
		x := o
		x.Files = slices.Clone(o.Files)
		c.spoil(&x)
		plays(t, again(t, x, whole), fmt.Sprint("ran: ", c.ran))
	}
}

func TestN3Reboot(t *testing.T) {
	one := target("t", "", "", "", "")
	f := newFarm(t, order("t", terms(), one))
	// A reboot of less than nothing is none.
	plays(t, f, `
		reboot -1: 3
		ask 1: 0
		reboot -1: 3
		reboot -9223372036854775808: 3
		ask 1: 6
		work 1: 0
		ran: 1
		reboot -1: 3
		ran: 1
		reboot 0: 0
		ran: 1
		report: 0 ran 1
		reboot 9223372036854775807: 0
		ran: 0
		log:
		report: 5
		reboot 9223372036854775807: 0
		ask 1: 0
		work 1: 0
		reboot 1: 0
		ran: 0`)
	// Workers have nothing, and told nothing; leases and tries begin anew.
	plays(t, newFarm(t, order("top", terms(), diamond()...)), `
		ask 1: 0
		tick 5: 0
		ask 2: 0
		work 1: 0
		reboot 0: 0
		twice 1: 5
		work 2: 5
		lose 2: 5
		ask 3: 0
		ask 2: 5
		tick 5: 0
		report: 5
		ask 3: 6
		ask 2: 0
		tick 5: 0
		report: 9
		ask 1: 4
		reboot 0: 0
		report: 5
		ask 2: 0
		work 2: 0
		log: base
		ask 2: 0
		reboot 0: 0
		twice 2: 5
		ask 2: 0
		ask 1: 0
		work 2: 0
		work 1: 0
		log: base l r`)
	// Time goes on: a lease is till the time that was, and 4.
	plays(t, newFarm(t, order("t", terms(), one)), `
		tick 100: 0
		reboot 0: 0
		ask 1: 0
		tick 4: 0
		work 1: 0
		ran: 1`)
}

func TestN4Report(t *testing.T) {
	// The first one of the order that is not done, or failed, or had an error: whatever is behind it.
	l := []api.Target{
		target("top", "", "a b c d", "", ""),
		target("a", "", "", "", ""),
		target("b", "", "", "", "exit 3"),
		target("c", "", "", "", "exit 4"),
		target("d", "", "", "", "no"),
	}
	asked := "ask 1: 0\nask 2: 0\nask 3: 0\nask 4: 0"
	plays(t, newFarm(t, order("top", terms(), l...)), asked+`
		work 4: 0
		report: 5
		work 3: 0
		report: 5
		work 2: 0
		report: 5
		ask 2: 5
		work 1: 0
		report: 0 b 3 ran 2
		ran: 3`)
	plays(t, newFarm(t, order("top", terms(), l...)), asked+`
		work 1: 0
		work 4: 0
		work 3: 0
		report: 5
		crash 2: 0
		tick 5: 0
		report: 5
		ask 2: 0
		work 2: 0
		report: 0 b 3 ran 2`)
	// What is lost is told if it is the first one.
	plays(t, newFarm(t, order("top", api.Terms{Last: 4, Tries: 1, Twins: 1}, l...)), `
		ask 1: 0
		ask 2: 0
		crash 2: 0
		tick 4: 0
		ask 3: 0
		work 3: 0
		ask 3: 0
		work 3: 0
		report: 5
		work 1: 0
		report: 5
		tick 1: 0
		report: 9
		ask 3: 4
		ran: 2`)
	plays(t, newFarm(t, order("top", api.Terms{Last: 4, Tries: 1, Twins: 1}, l...)), `
		ask 1: 0
		tick 1: 0
		ask 2: 0
		crash 1: 0
		tick 4: 0
		report: 9
		work 2: 0
		ran: 1
		log: b
		report: 9
		reboot 0: 0
		report: 5
		ask 1: 0
		work 1: 0
		report: 0 b 3 ran 2`)
}

// TestN4FailedIsNoNeed: what needs one that failed, itself or by others, is not built, and Build says the same.
func TestN4FailedIsNoNeed(t *testing.T) {
	for _, command := range []string{"exit 1", "read a none", "", "goto 0", "make o a; make o/x a"} {
		o := order("top", terms(), target("top", "", "mid", "", ""), target("mid", "", "low", "", ""), target("low", "", "", "o", command))
		f := worked(t, o)
		plays(t, f, "ran: 1\nlog: low\nask 1: 4\nask 2: 4")
		if want := shown(build.Build(o.Files, o.Path, o.Name, o.Fuel)); say(f, "report") != want {
			t.Errorf("%s: it reports %s, and Build says %s", command, say(f, "report"), want)
		}
	}
}
