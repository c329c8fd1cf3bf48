package farm_test

import (
	"fmt"
	"strings"
	"testing"

	"foundry/api"
	"foundry/build"
	"foundry/farm"
)

func TestN1New(t *testing.T) {
	f := newFarm(t, order("top", terms(), diamond()...))
	if f.Log() != "" {
		t.Errorf("the log begins with %q", f.Log())
	}
	plays(t, f, "ran: 0\nreport: 5\nlog:")
	// One that nobody needs has no part in it, be it wrong or not.
	more := append(diamond(), target("wrong", "", "", "", "no"), target("user", "", "top", "", "exit 3"), target("aa", "", "", "", ""))
	f = newFarm(t, order("l", terms(), more...))
	plays(t, f, `
		ask 1: 0
		ask 2: 5
		work 1: 0
		ask 2: 0
		work 2: 0
		log: base l
		ran: 2
		report: 0 o/l=seedL ran 2
		ask 1: 4`)
}

func TestN1Errors(t *testing.T) {
	good := order("t", terms(), target("t", "", "", "", ""))
	main := func(s string) func(*api.Order) {
		return func(o *api.Order) { o.Files = []api.File{file("main", s), file("s", "")} }
	}
	for i, c := range []struct {
		spoil func(*api.Order)
		e     api.Errno
	}{
		{func(o *api.Order) {}, api.OK},
		// Those of Run of chapter 8.
		{func(o *api.Order) { o.Files = append(o.Files, file("a", "")) }, api.ErrTwice},
		{func(o *api.Order) { o.Files = make([]api.File, api.MaxFiles+1) }, api.ErrMany},
		{func(o *api.Order) { o.Files = nil }, api.ErrNone},
		{func(o *api.Order) { o.Path = "none" }, api.ErrNone},
		{func(o *api.Order) { o.Path = "/" }, api.ErrNone},
		{func(o *api.Order) { o.Fuel = -1 }, api.ErrRange},
		{func(o *api.Order) { o.Fuel = api.MaxFuel + 1 }, api.ErrRange},
		{func(o *api.Order) { o.Fuel = 1 }, api.ErrFuel},
		{main("x = "), api.ErrForm},
		{main("fail(\"x\")"), api.ErrFail},
		{main("x = 1 + \"\""), api.ErrType},
		// Those of Check of chapter 9, of whichever target.
		{main("rule(name=\"t\")\nrule(name=\"u\", needs=[\"x\"])"), api.ErrNone},
		{main("rule(name=\"t\")\nrule(name=\"u\", needs=[\"u\"])"), api.ErrCircle},
		{main("rule(name=\"t\")\nrule(name=\"u\", outs=[\"/\"])"), api.ErrForm},
		{main("rule(name=\"t\")\nrule(name=\"u\", outs=[\"s/x\"])"), api.ErrTwice},
		{main("rule(name=\"t\")\nrule(name=\"u\", command=[\"x\" for i in range(61)])"), api.ErrMany},
		// ErrNone, if there is no such target.
		{main("rule(name=\"u\")"), api.ErrNone},
		{main(""), api.ErrNone},
		{func(o *api.Order) { o.Name = "none" }, api.ErrNone},
		{func(o *api.Order) { o.Name = "" }, api.ErrNone},
		// What is wrong with a target as it is planned, or done, is not met yet.
		{main("rule(name=\"t\", command=[\"no\"])"), api.OK},
	} {
		for _, wrong := range []api.Terms{terms(), {}, {Last: 1, Tries: 11, Twins: 1}} {
			o := good
			o.Terms = wrong
			c.spoil(&o)
			want := c.e
			if want == api.OK && wrong != terms() {
				want = api.ErrRange
			}
			f, e := farm.New(o)
			g, again := farm.Again(o, "")
			if e != want || again != want || (f == nil) != (e != api.OK) || (g == nil) != (e != api.OK) {
				t.Errorf("%d %v: New: %v %d, Again: %v %d, must be %d", i, wrong, f == nil, e, g == nil, again, want)
			}
			if _, e := build.Build(o.Files, o.Path, o.Name, o.Fuel); c.e != api.OK && e != c.e {
				t.Errorf("%d: Build says %d", i, e)
			}
		}
	}
}

func TestN1Terms(t *testing.T) {
	for _, c := range []struct {
		terms api.Terms
		e     api.Errno
	}{
		{api.Terms{Last: 1, Tries: 1, Twins: 1}, api.OK},
		{api.Terms{Last: api.MaxTime, Tries: 10, Twins: 5}, api.OK},
		{api.Terms{Last: 0, Tries: 1, Twins: 1}, api.ErrRange},
		{api.Terms{Last: api.MaxTime + 1, Tries: 1, Twins: 1}, api.ErrRange},
		{api.Terms{Last: 1, Tries: 0, Twins: 1}, api.ErrRange},
		{api.Terms{Last: 1, Tries: 11, Twins: 1}, api.ErrRange},
		{api.Terms{Last: 1, Tries: 1, Twins: 0}, api.ErrRange},
		{api.Terms{Last: 1, Tries: 1, Twins: 6}, api.ErrRange},
	} {
		if f, e := farm.New(order("t", c.terms, target("t", "", "", "", ""))); e != c.e || (f == nil) != (e != api.OK) {
			t.Errorf("New with %v: %d, must be %d", c.terms, e, c.e)
		}
	}
}

// TestN1Most: as many targets as there may be are jobs.
func TestN1Most(t *testing.T) {
	o := order("t00", terms())
	o.Files[0].Text = "for i in range(59):\n    rule(name=\"t\" + str(i // 10) + str(i % 10), needs=[\"t\" + str((i + 1) // 10) + str((i + 1) % 10)])\nrule(name=\"t59\")\n"
	f := newFarm(t, o)
	for i := range api.MaxFiles {
		plays(t, f, fmt.Sprintf("report: 5\nask 1: 0\nask 2: 5\nwork 1: 0\nran: %d", i+1))
	}
	plays(t, f, "report: 0 ran 60\nask 1: 4")
	if l := names(f.Log()); l[0] != "t59" || l[59] != "t00" {
		t.Errorf("they were done in the order %q", l)
	}
}

func TestN1Ready(t *testing.T) {
	// Of those that are ready the first one of the cone's order.
	plays(t, newFarm(t, order("top", terms(), diamond()...)), `
		ask 1: 0
		ask 2: 5
		work 1: 0
		log: base
		ask 2: 0
		ask 3: 0
		ask 4: 5
		work 3: 0
		log: base r
		ask 4: 5
		work 2: 0
		log: base r l
		ask 4: 0
		ask 3: 5
		work 4: 0
		log: base r l top
		report: 0 o/top=seedLseedR ran 4`)
	// One whose need failed, or of whose need an error is noted, is never ready.
	plays(t, newFarm(t, order("top", terms(),
		target("top", "", "a u v", "", ""),
		target("a", "", "", "", ""),
		target("u", "", "a-wrong", "", ""),
		target("v", "", "bad b", "", ""),
		target("a-wrong", "", "", "", "no"),
		target("bad", "", "", "", "exit 3"),
		target("b", "", "", "", ""),
	)), `
		ask 1: 0
		ask 2: 0
		work 2: 0
		ask 2: 0
		ask 3: 0
		work 3: 0
		work 2: 0
		log: bad b
		ask 2: 5
		ask 3: 5
		report: 5
		work 1: 0
		log: bad b a
		report: 1
		ran: 3
		ask 2: 4`)
}

func TestN2Kinds(t *testing.T) {
	f := newFarm(t, order("top", terms(), diamond()...))
	for _, kind := range []int{0, -1, 8, 9, 1 << 40, -1 << 63} {
		for _, worker := range []int{0, 1, 99} {
			for _, n := range []int{-1, 0, 1} {
				if e := f.Step(api.Event{Kind: kind, Worker: worker, N: n}); e != api.ErrKind {
					t.Errorf("Step of the kind %d: %d", kind, e)
				}
			}
		}
	}
	for _, worker := range []int{0, -1, api.MaxWorkers + 1, 1 << 62, -1 << 63} {
		plays(t, f, strings.ReplaceAll("ask N: 3\nwork N: 3\ncrash N: 3\nlose N: 3\ntwice N: 3", "N", fmt.Sprint(worker)))
		// No worker is asked for here, nor a number of the others.
		if e := f.Step(api.Event{Kind: api.EventTick, Worker: worker}); e != api.OK {
			t.Errorf("a tick of the worker %d: %d", worker, e)
		}
		if e := f.Step(api.Event{Kind: api.EventReboot, Worker: worker}); e != api.OK {
			t.Errorf("a reboot of the worker %d: %d", worker, e)
		}
		if e := f.Step(api.Event{Kind: api.EventCrash, Worker: 1, N: worker}); e != api.OK {
			t.Errorf("a crash with %d: %d", worker, e)
		}
	}
	plays(t, f, "ran: 0\nreport: 5\nask 50: 0\nwork 50: 0\nask 1: 0\nwork 1: 0\nran: 2")
	if e := f.Step(api.Event{Kind: api.EventAsk, Worker: 2, N: -5}); e != api.OK {
		t.Errorf("an ask with -5: %d", e)
	}
}

func TestN2Tick(t *testing.T) {
	plays(t, newFarm(t, order("top", terms(), diamond()...)), `
		tick -1: 3
		tick 1000001: 3
		tick -9223372036854775808: 3
		tick 9223372036854775807: 3
		tick 0: 0
		ask 1: 0
		tick 0: 0
		tick 4: 0
		ask 2: 5
		tick 1: 0
		ask 2: 0
		tick 1000000: 0
		report: 9`)
	// What was refused is no time that has gone.
	plays(t, newFarm(t, order("top", terms(), diamond()...)), `
		ask 1: 0
		tick 1000001: 3
		tick -1: 3
		ask 2: 5
		work 1: 0
		ran: 1`)
}

func TestN2TheLastTime(t *testing.T) {
	f := newFarm(t, order("top", terms(), diamond()...))
	for range 999 {
		plays(t, f, "tick 1000000: 0")
	}
	plays(t, f, `
		tick 999999: 0
		tick 2: 3
		tick 1000000: 3
		ask 1: 0
		tick 1: 0
		tick 1: 3
		tick 0: 0
		reboot 0: 0
		tick 1: 3
		tick 0: 0
		ask 1: 0
		work 1: 0
		log: base`)
}

func TestN2Ask(t *testing.T) {
	plays(t, newFarm(t, order("top", terms(), diamond()...)), `
		ask 1: 0
		ask 1: 6
		ask 1: 6
		ask 2: 5
		work 1: 0
		ask 1: 0
		ask 1: 6
		work 1: 0
		log: base l
		ask 1: 0
		work 1: 0
		ask 1: 0
		work 1: 0
		ran: 4
		ask 1: 4
		ask 2: 4`)
	// Who has something is told so, though the farm has ended, or nothing is ready.
	plays(t, newFarm(t, order("top", terms(),
		target("top", "", "a b", "", ""),
		target("a", "", "", "", "exit 1"),
		target("b", "", "", "", ""),
	)), `
		ask 1: 0
		ask 2: 0
		ask 2: 6
		work 1: 0
		report: 0 a 1 ran 1
		ask 2: 6
		ask 1: 4
		work 2: 0
		log: a b
		report: 0 a 1 ran 1
		ran: 2
		ask 2: 4`)
}

// TestN2Leases: who may have what, and for how long.
func TestN2Leases(t *testing.T) {
	one := target("t", "", "", "", "")
	two := api.Terms{Last: 4, Tries: 9, Twins: 2}
	plays(t, newFarm(t, order("t", two, one)), `
		ask 1: 0
		ask 2: 0
		ask 3: 5
		crash 1: 0
		ask 1: 5
		ask 3: 5
		tick 4: 0
		ask 3: 5
		tick 1: 0
		ask 3: 0
		ask 2: 6
		work 2: 0
		ran: 0
		report: 5
		ask 2: 0
		work 3: 0
		ran: 1
		work 2: 0
		ran: 1
		report: 0 ran 1`)
	// One that it may not have again is passed over.
	plays(t, newFarm(t, order("top", two, target("top", "", "a b", "", ""), target("a", "", "", "", ""), target("b", "", "", "", ""))), `
		ask 1: 0
		crash 1: 0
		ask 1: 0
		work 1: 0
		log: b
		ask 2: 0
		work 2: 0
		log: b a
		ask 2: 0
		work 2: 0
		report: 0 ran 3`)
	// What is tried too often is lost.
	plays(t, newFarm(t, order("t", api.Terms{Last: 1, Tries: 3, Twins: 2}, one)), `
		ask 1: 0
		ask 2: 0
		tick 2: 0
		ask 3: 0
		ask 4: 5
		report: 5
		tick 1: 0
		report: 5
		tick 1: 0
		report: 9
		ask 4: 4
		work 1: 0
		work 3: 0
		twice 3: 0
		ran: 0
		report: 9`)
}

func TestN2Work(t *testing.T) {
	plays(t, newFarm(t, order("top", terms(), diamond()...)), `
		work 1: 5
		ask 1: 0
		work 2: 5
		work 1: 0
		work 1: 5
		ran: 1
		log: base`)
	// What is told when its lease is over does not count, but in time it does.
	plays(t, newFarm(t, order("top", terms(), diamond()...)), `
		ask 1: 0
		tick 5: 0
		work 1: 0
		ran: 0
		log:
		work 1: 5
		ask 1: 0
		tick 4: 0
		work 1: 0
		log: base`)
	// An action that failed counts.
	plays(t, newFarm(t, order("bad", terms(), target("bad", "", "", "o", "make o a; exit 7"))), `
		ask 1: 0
		work 1: 0
		ran: 1
		log: bad
		report: 0 bad 7 ran 1`)
	// Of two who have it the first one that tells counts.
	plays(t, newFarm(t, order("bad", api.Terms{Last: 4, Tries: 2, Twins: 2}, target("bad", "", "", "", "exit 7"))), `
		ask 1: 0
		ask 2: 0
		work 2: 0
		ran: 1
		work 1: 0
		ran: 1
		log: bad
		twice 1: 0
		twice 2: 0
		ran: 1
		report: 0 bad 7 ran 1`)
}

func TestN2CrashAndLose(t *testing.T) {
	plays(t, newFarm(t, order("t", api.Terms{Last: 4, Tries: 3, Twins: 1}, target("t", "", "", "", ""))), `
		crash 1: 0
		lose 1: 5
		ask 1: 0
		crash 2: 0
		lose 2: 5
		crash 1: 0
		work 1: 5
		lose 1: 5
		ask 1: 5
		ask 2: 5
		tick 5: 0
		ask 1: 0
		lose 1: 0
		ran: 0
		log:
		twice 1: 5
		work 1: 5
		lose 1: 5
		ask 2: 5
		tick 5: 0
		ask 2: 0
		work 2: 0
		ran: 1
		report: 0 ran 1`)
	// What is lost is not what was told last, and who crashes has told what it told.
	plays(t, newFarm(t, order("top", api.Terms{Last: 4, Tries: 9, Twins: 1}, diamond()...)), `
		ask 1: 0
		tick 5: 0
		work 1: 0
		ask 2: 0
		crash 2: 0
		tick 5: 0
		ask 1: 0
		lose 1: 0
		crash 1: 0
		twice 1: 0
		log: base
		twice 2: 5`)
}

func TestN2Twice(t *testing.T) {
	plays(t, newFarm(t, order("top", api.Terms{Last: 4, Tries: 9, Twins: 1}, diamond()...)), `
		twice 1: 5
		ask 1: 0
		twice 1: 5
		work 1: 0
		twice 1: 0
		twice 1: 0
		ran: 1
		log: base
		ask 1: 0
		twice 1: 0
		ran: 1
		tick 5: 0
		work 1: 0
		twice 1: 0
		ran: 1
		ask 2: 0
		twice 1: 0
		ran: 1
		ask 1: 0
		twice 1: 0
		ran: 1
		work 2: 0
		log: base l
		work 1: 0
		log: base l r
		twice 1: 0
		ran: 3`)
	// It has a lease again: so it counts, and what it has then does not.
	plays(t, newFarm(t, order("top", api.Terms{Last: 4, Tries: 9, Twins: 1}, diamond()...)), `
		ask 1: 0
		tick 5: 0
		work 1: 0
		ran: 0
		ask 1: 0
		twice 1: 0
		ran: 1
		log: base
		ask 1: 6
		work 1: 0
		ran: 1
		log: base
		ask 1: 0`)
	// Another one's lease is not its own.
	plays(t, newFarm(t, order("top", api.Terms{Last: 4, Tries: 9, Twins: 1}, diamond()...)), `
		ask 1: 0
		tick 5: 0
		work 1: 0
		ask 2: 0
		twice 1: 0
		ran: 0
		work 2: 0
		ran: 1`)
}

// maker of so many outs.
func maker(name string, outs int) api.Target {
	t := api.Target{Name: name}
	for i := range outs {
		t.Outs = append(t.Outs, fmt.Sprint(name, "/", i))
		t.Command = append(t.Command, fmt.Sprint("make ", name, "/", i, " a"))
	}
	return t
}

// many: a target for which what its needs made are too many files, and others.
func many() []api.Target {
	return []api.Target{target("many", "", "m1 m2", "", "no"), target("top", "", "many b", "", ""), target("b", "", "", "", "exit 3"), maker("m1", 31), maker("m2", 31)}
}

func TestN2ErrorsOfPlan(t *testing.T) {
	plays(t, newFarm(t, order("many", api.Terms{Last: 4, Tries: 1, Twins: 2}, many()...)), `
		ask 1: 0
		work 1: 0
		ask 1: 0
		work 1: 0
		log: m1 m2
		report: 5
		ask 1: 0
		report: 2
		work 1: 5
		lose 1: 5
		ask 1: 4
		ask 2: 4
		twice 1: 0
		ran: 2
		log: m1 m2
		tick 9: 0
		report: 2`)
	// Its sources are files, too.
	for outs, report := range map[int]string{28: "0 ran 3", 29: "2"} {
		f := newFarm(t, order("t", terms(), target("t", "s", "m1 m2", "", ""), maker("m1", 31), maker("m2", outs)))
		plays(t, f, "ask 1: 0\nwork 1: 0\nask 1: 0\nwork 1: 0\nask 1: 0")
		say(f, "work 1")
		plays(t, f, "report: "+report+"\nask 1: 4")
	}
	// It is noted, though others ahead are not done; then the first one of the order is told.
	plays(t, newFarm(t, order("top", terms(), many()...)), `
		ask 1: 0
		ask 2: 0
		work 2: 0
		ask 2: 0
		work 2: 0
		log: m1 m2
		ask 2: 0
		ask 2: 5
		report: 5
		work 1: 0
		log: m1 m2 b
		report: 0 b 3 ran 1`)
}

func TestN2ErrorsOfDo(t *testing.T) {
	wrong := target("wrong", "", "", "", "no")
	plays(t, newFarm(t, order("wrong", terms(), wrong)), `
		ask 1: 0
		report: 5
		work 1: 0
		report: 1
		ran: 0
		log:
		ask 1: 4
		twice 1: 0
		report: 1
		tick 9: 0
		report: 1`)
	// What does not count is not noted; told twice it may count.
	plays(t, newFarm(t, order("wrong", terms(), wrong)), `
		ask 1: 0
		tick 5: 0
		work 1: 0
		report: 5
		twice 1: 0
		report: 5
		ask 1: 0
		report: 5
		twice 1: 0
		report: 1
		work 1: 0
		report: 1
		ran: 0`)
	plays(t, newFarm(t, order("wrong", terms(), wrong)), `
		ask 1: 0
		lose 1: 0
		report: 5
		twice 1: 5
		tick 5: 0
		ask 1: 0
		tick 5: 0
		report: 9
		work 1: 0
		report: 9`)
	// It is neither ready nor done, and told ahead of its being lost.
	plays(t, newFarm(t, order("top", api.Terms{Last: 4, Tries: 2, Twins: 2}, wrong, target("top", "", "wrong a", "", ""), target("a", "", "", "", ""), target("z", "", "", "", ""))), `
		ask 1: 0
		ask 2: 0
		crash 2: 0
		ask 2: 0
		ask 3: 0
		work 3: 0
		report: 5
		ask 3: 5
		work 1: 0
		report: 1
		work 2: 0
		report: 1
		ran: 1
		log: a`)
}
