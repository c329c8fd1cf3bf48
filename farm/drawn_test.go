package farm_test

import (
	"fmt"
	"slices"
	"strings"
	"testing"

	"foundry/api"
	"foundry/build"
	"foundry/eval"
	"foundry/farm"
	"foundry/graph"
	"foundry/tree"
)

// fate of a target: what comes of it whoever does it, as soon as its needs are done.
type fate struct {
	target  api.Target
	planned api.Errno
	done    api.Errno
	code    int
	made    []api.File
	entry   string
}

// fates of the targets of a cone, and its order.
func fates(t *testing.T, o api.Order) (map[string]*fate, []string) {
	t.Helper()
	targets, _, _, e := eval.Run(o.Files, o.Path, o.Fuel)
	cone, f := graph.Cone(targets, o.Name)
	if e != api.OK || f != api.OK {
		t.Fatalf("%d %d: %s", e, f, o.Files[0].Text)
	}
	l := map[string]*fate{}
	for _, name := range cone {
		i := slices.IndexFunc(targets, func(t api.Target) bool { return t.Name == name })
		one := &fate{target: targets[i]}
		l[name] = one
		var made []api.File
		for _, need := range one.target.Needs {
			if one.planned == api.OK {
				made, one.planned = tree.Over(made, l[need].made)
			}
		}
		if one.planned != api.OK {
			continue
		}
		a, in, e := build.Plan(o.Files, one.target, made, o.Fuel)
		if one.planned = e; e != api.OK {
			continue
		}
		result, made, e := build.Do(in, a)
		key, _ := build.Key(a)
		one.done, one.code, one.made = e, result.Code, made
		if e == api.OK {
			one.entry = entry(name, key, result)
		}
	}
	return l, cone
}

// model of a farm: it knows what will come of each target, and plays who has what, and what counts.
type model struct {
	terms  api.Terms
	built  api.Built // what Build says
	wrong  api.Errno
	fates  map[string]*fate
	cone   []string
	now    int
	log    []string // names
	noted  map[string]api.Errno
	leases []api.Lease
	tries  map[string]int
	has    map[int]string
	told   map[int]string
}

func newModel(t *testing.T, o api.Order) *model {
	m := &model{terms: o.Terms}
	m.built, m.wrong = build.Build(o.Files, o.Path, o.Name, o.Fuel)
	m.fates, m.cone = fates(t, o)
	m.begin()
	return m
}

func (m *model) begin() {
	m.noted, m.leases, m.tries = map[string]api.Errno{}, nil, map[string]int{}
	m.has, m.told = map[int]string{}, map[int]string{}
}

func (m *model) Log() string {
	var l []string
	for _, name := range m.log {
		l = append(l, m.fates[name].entry)
	}
	return logOf(l...)
}

func (m *model) Ran() int { return len(m.log) }

func (m *model) having(name string) int {
	n := 0
	for _, l := range m.leases {
		if l.Job == name {
			n++
		}
	}
	return n
}

func (m *model) place(name string, worker int) int {
	return slices.IndexFunc(m.leases, func(l api.Lease) bool { return l.Job == name && l.Worker == worker })
}

// Report by what Build says, and by what is missing for that.
func (m *model) Report() (api.Built, api.Errno) {
	for _, name := range m.cone {
		isDone := slices.Contains(m.log, name)
		switch {
		case m.noted[name] != api.OK:
			return api.Built{}, m.noted[name]
		case !isDone && m.having(name) == 0 && m.tries[name] == m.terms.Tries:
			return api.Built{}, api.ErrFuel
		case !isDone:
			return api.Built{}, api.ErrNone
		case m.fates[name].code != 0:
			return m.built, m.wrong
		}
	}
	return m.built, m.wrong
}

func (m *model) isReady(name string) bool {
	for _, need := range m.fates[name].target.Needs {
		if !slices.Contains(m.log, need) || m.fates[need].code != 0 {
			return false
		}
	}
	return !slices.Contains(m.log, name) && m.noted[name] == api.OK
}

func (m *model) ask(worker int) api.Errno {
	if m.has[worker] != "" {
		return api.ErrTwice
	}
	if _, e := m.Report(); e != api.ErrNone {
		return api.ErrState
	}
	for _, name := range m.cone {
		if !m.isReady(name) || m.having(name) == m.terms.Twins || m.tries[name] == m.terms.Tries || m.place(name, worker) >= 0 {
			continue
		}
		m.tries[name]++
		if m.noted[name] = m.fates[name].planned; m.noted[name] == api.OK {
			m.leases = append(m.leases, api.Lease{Job: name, Worker: worker, Till: m.now + m.terms.Last})
			m.has[worker] = name
		}
		return api.OK
	}
	return api.ErrNone
}

// tell of a target.
func (m *model) tell(name string, worker int) {
	m.told[worker] = name
	i := m.place(name, worker)
	if i < 0 {
		return
	}
	m.leases = slices.Delete(m.leases, i, i+1)
	if m.noted[name] = m.fates[name].done; m.noted[name] == api.OK {
		m.log = append(m.log, name)
		m.leases = slices.DeleteFunc(m.leases, func(l api.Lease) bool { return l.Job == name })
	}
}

func (m *model) Step(e api.Event) api.Errno {
	had := m.has[e.Worker]
	switch e.Kind {
	case api.EventTick:
		m.now += e.N
		m.leases = slices.DeleteFunc(m.leases, func(l api.Lease) bool { return l.Till < m.now })
	case api.EventReboot:
		left := max(0, len(m.Log())-e.N)
		for len(m.Log()) > left {
			m.log = m.log[:len(m.log)-1]
		}
		m.begin()
	case api.EventAsk:
		return m.ask(e.Worker)
	case api.EventTwice:
		if m.told[e.Worker] == "" {
			return api.ErrNone
		}
		m.tell(m.told[e.Worker], e.Worker)
	default:
		delete(m.has, e.Worker)
		if had == "" && e.Kind != api.EventCrash {
			return api.ErrNone
		}
		if e.Kind == api.EventWork {
			m.tell(had, e.Worker)
		}
	}
	return api.OK
}

// drawnTarget that needs some of those ahead of it.
func drawnTarget(d *draw, name string, ahead []api.Target) api.Target {
	t := api.Target{Name: name, Outs: []string{"o/" + name}}
	if d.below(3) == 0 {
		t.Sources = append(t.Sources, "s")
		t.Command = append(t.Command, "read a s")
	}
	for _, need := range ahead {
		if d.below(2) > 0 {
			continue
		}
		t.Needs = append(t.Needs, need.Name)
		for _, out := range need.Outs[:min(1, len(need.Outs))] {
			t.Command = append(t.Command, "read b "+out, "join a b")
		}
	}
	shuffle(d, t.Needs)
	t.Command = append(t.Command, "set b "+name, "join a b", "make "+t.Outs[0]+" a")
	switch d.below(14) {
	case 0:
		t.Command = append(t.Command, fmt.Sprint("exit ", d.below(100)))
	case 1:
		t.Command = t.Command[:len(t.Command)-1]
	case 2:
		t.Command = append(t.Command, "no")
	case 3:
		t.Command = append(t.Command, "goto 0")
	case 4, 5:
		large := maker(name, 30+d.below(2))
		t.Outs, t.Command = large.Outs, large.Command
	}
	return t
}

func drawnOrder(d *draw) api.Order {
	all := []string{"a", "b", "c", "d", "e", "f", "g"}
	shuffle(d, all)
	var l []api.Target
	large := 0
	for _, name := range all[:1+d.below(7)] {
		t := drawnTarget(d, name, l)
		// Two of them are enough for too many files, and a third one makes the source too long.
		if len(t.Outs) > 1 {
			large++
		}
		if large > 2 && len(t.Outs) > 1 {
			t.Outs, t.Command = nil, nil
		}
		l = append(l, t)
	}
	name := l[len(l)-1].Name
	shuffle(d, l)
	return order(name, api.Terms{Last: 1 + d.below(6), Tries: 1 + d.below(5), Twins: 1 + d.below(3)}, l...)
}

// drawnEvent that makes sense; what may not be asked is no matter here.
func drawnEvent(d *draw, workers int) api.Event {
	worker := 1 + d.below(workers)
	switch n := d.below(40); {
	case n < 14:
		return api.Event{Kind: api.EventAsk, Worker: worker}
	case n < 24:
		return api.Event{Kind: api.EventWork, Worker: worker}
	case n < 30:
		return api.Event{Kind: api.EventTick, N: d.below(4)}
	case n < 33:
		return api.Event{Kind: api.EventCrash, Worker: worker}
	case n < 35:
		return api.Event{Kind: api.EventLose, Worker: worker}
	case n < 39:
		return api.Event{Kind: api.EventTwice, Worker: worker}
	}
	return api.Event{Kind: api.EventReboot, N: []int{0, 1, d.below(200), d.below(1000), 1 << 62}[d.below(5)]}
}

func TestN2N3N4DrawnAgainstModel(t *testing.T) {
	d := draw(1)
	seen := map[string]int{}
	for range 2000 {
		o := drawnOrder(&d)
		f, m := newFarm(t, o), newModel(t, o)
		workers := 1 + d.below(4)
		var events []string
		for range 60 {
			e := drawnEvent(&d, workers)
			events = append(events, fmt.Sprint(e))
			ran := m.Ran()
			got, want := f.Step(e), m.Step(e)
			if got != want || f.Log() != m.Log() || f.Ran() != m.Ran() {
				t.Fatalf("%v\n%s%s: %d %q, must be %d %q", o.Terms, o.Files[0].Text, strings.Join(events, " "), got, names(f.Log()), want, m.log)
			}
			reported, wanted := say(f, "report"), say(m, "report")
			if reported != wanted {
				t.Fatalf("%v\n%s%s: it reports %s, must be %s", o.Terms, o.Files[0].Text, strings.Join(events, " "), reported, wanted)
			}
			seen[fmt.Sprint("step ", e.Kind, want)]++
			seen["report "+wanted[:1]]++
			if e.Kind == api.EventTwice && m.Ran() > ran {
				seen["told twice, and counts"]++
			}
		}
	}
	for _, want := range []string{"step 2 0", "step 2 4", "step 2 5", "step 2 6", "step 3 0", "step 3 5", "step 5 0", "step 5 5", "step 6 0", "step 6 5", "step 7 0", "report 0", "report 1", "report 2", "report 5", "report 9", "told twice, and counts"} {
		if seen[want] < 20 {
			t.Errorf("%s came %d times: that is no test", want, seen[want])
		}
	}
}

// TestN5DrawnReportsWhatBuildSays: whatever is lost, told twice, crashes or is cut off; and whoever comes back alone ends it.
func TestN5DrawnReportsWhatBuildSays(t *testing.T) {
	d := draw(2)
	ended := 0
	for range 500 {
		o := drawnOrder(&d)
		want := shown(build.Build(o.Files, o.Path, o.Name, o.Fuel))
		f := newFarm(t, o)
		workers := 1 + d.below(4)
		for range d.below(100) {
			f.Step(drawnEvent(&d, workers))
			switch got := say(f, "report"); got {
			case "5", "9":
			case want:
				ended++
			default:
				t.Fatalf("%v\n%s: it reports %s, and Build says %s", o.Terms, o.Files[0].Text, got, want)
			}
		}
		g := again(t, o, f.Log()+d.of("", "torn", "L", "\x00"))
		if g.Log() != f.Log() || g.Ran() != f.Ran() {
			t.Fatalf("Again: %q, and it was %q", names(g.Log()), names(f.Log()))
		}
		plays(t, f, "reboot 0: 0")
		for _, one := range []*farm.Farm{f, g, newFarm(t, o)} {
			comesToAnEnd(t, one, len(strings.Split(o.Files[0].Text, "\n")))
			if got := say(one, "report"); got != want {
				t.Fatalf("%v\n%s: at last it reports %s, and Build says %s", o.Terms, o.Files[0].Text, got, want)
			}
		}
	}
	if ended < 1000 {
		t.Errorf("it ended %d times: that is no test", ended)
	}
}

// comesToAnEnd: one worker asks and works in turns, as often as there are targets at most.
func comesToAnEnd(t *testing.T, f *farm.Farm, most int) {
	t.Helper()
	for range most {
		if say(f, "report") != "5" {
			return
		}
		if e := say(f, "ask 1"); e != "0" {
			t.Fatalf("a worker asks, and is told %s", e)
		}
		say(f, "work 1")
	}
}
