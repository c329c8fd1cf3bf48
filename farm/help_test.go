package farm_test

import (
	"fmt"
	"reflect"
	"slices"
	"strings"
	"testing"

	"foundry/api"
	"foundry/farm"
	"foundry/log"
	"foundry/syntax"
	"foundry/wire"
)

// plenty of fuel for all that is built here.
const plenty = 20000

// draw numbers that are the same each time.
type draw uint64

func (d *draw) below(n int) int {
	*d = *d*6364136223846793005 + 1442695040888963407
	return int(uint64(*d) >> 33 % uint64(n))
}

func (d *draw) of(l ...string) string { return l[d.below(len(l))] }

func shuffle[T any](d *draw, l []T) {
	for i := len(l) - 1; i > 0; i-- {
		j := d.below(i + 1)
		l[i], l[j] = l[j], l[i]
	}
}

func file(path, text string) api.File { return api.File{Path: path, Text: text} }

// target of a name, and of texts for its lists: words, and, of its command, lines with `; ` between each two.
func target(name, sources, needs, outs, command string) api.Target {
	t := api.Target{Name: name, Sources: strings.Fields(sources), Needs: strings.Fields(needs), Outs: strings.Fields(outs)}
	if command != "" {
		t.Command = strings.Split(command, "; ")
	}
	return t
}

// rule that declares a target.
func rule(t api.Target) string {
	list := func(l []string) string {
		var quoted []string
		for _, s := range l {
			quoted = append(quoted, syntax.Quote(s))
		}
		return "[" + strings.Join(quoted, ", ") + "]"
	}
	return "rule(name=" + syntax.Quote(t.Name) + ", sources=" + list(t.Sources) + ", needs=" + list(t.Needs) + ", outs=" + list(t.Outs) + ", command=" + list(t.Command) + ")\n"
}

// terms under which a lease lasts 4, and a job is tried twice, by one at a time.
func terms() api.Terms { return api.Terms{Last: 4, Tries: 2, Twins: 1} }

// order of one of some targets; there are a source `main` of these, and a file `s`.
func order(name string, t api.Terms, targets ...api.Target) api.Order {
	var b strings.Builder
	for _, one := range targets {
		b.WriteString(rule(one))
	}
	return api.Order{Files: []api.File{file("main", b.String()), file("s", "seed")}, Path: "main", Name: name, Fuel: plenty, Terms: t}
}

// diamond of targets: `top` needs `l` and `r`, and both need `base`.
func diamond() []api.Target {
	return []api.Target{
		target("top", "", "r l", "o/top", "read a o/l; read b o/r; join a b; make o/top a"),
		target("l", "", "base", "o/l", "read a o/base; set b L; join a b; make o/l a"),
		target("r", "", "base", "o/r", "read a o/base; set b R; join a b; make o/r a"),
		target("base", "s", "", "o/base", "read a s; make o/base a"),
	}
}

func newFarm(t *testing.T, o api.Order) *farm.Farm {
	t.Helper()
	f, e := farm.New(o)
	if f == nil || e != api.OK {
		t.Fatalf("New: %v %d", f, e)
	}
	return f
}

// farmlike is what can be asked of a farm, and of its model.
type farmlike interface {
	Step(e api.Event) api.Errno
	Report() (api.Built, api.Errno)
	Log() string
	Ran() int
}

// names of the targets that a log tells of.
func names(s string) []string {
	entries, _ := log.Read(s)
	var l []string
	for _, entry := range entries {
		parts, _ := wire.ReadTexts(entry)
		l = append(l, parts[0])
	}
	return l
}

// shown is a report as a text.
func shown(b api.Built, e api.Errno) string {
	if e != api.OK {
		if !reflect.DeepEqual(b, api.Built{Files: b.Files}) || len(b.Files) > 0 {
			return fmt.Sprint(int(e), b)
		}
		return fmt.Sprint(int(e))
	}
	l := []string{"0"}
	if b.Failed != "" || b.Code != 0 {
		l = append(l, fmt.Sprint(b.Failed, " ", b.Code))
	}
	for _, f := range b.Files {
		l = append(l, f.Path+"="+f.Text)
	}
	return strings.Join(append(l, fmt.Sprint("ran ", b.Ran)), " ")
}

// say what a farm answers if it is asked by a text: `tick 5`, or `ask 1`, of a worker, are steps.
func say(f farmlike, asked string) string {
	var what string
	var n int
	fmt.Sscan(asked, &what, &n)
	switch what {
	case "report":
		return shown(f.Report())
	case "log":
		return strings.Join(names(f.Log()), " ")
	case "ran":
		return fmt.Sprint(f.Ran())
	}
	kind := 1 + slices.Index([]string{"tick", "ask", "work", "crash", "lose", "twice", "reboot"}, what)
	e := api.Event{Kind: kind, Worker: n}
	if kind == api.EventTick || kind == api.EventReboot {
		e = api.Event{Kind: kind, N: n}
	}
	return fmt.Sprint(int(f.Step(e)))
}

// plays a script with a farm: lines of what is asked, `:` and what it answers.
func plays(t *testing.T, f farmlike, script string) {
	t.Helper()
	for i, line := range strings.Split(strings.TrimSpace(script), "\n") {
		asked, want, _ := strings.Cut(strings.TrimSpace(line), ":")
		if got := say(f, asked); got != strings.TrimSpace(want) {
			t.Errorf("line %d, %s: it says %q", i, line, got)
		}
	}
}
