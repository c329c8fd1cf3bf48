package build_test

import (
	"reflect"
	"slices"
	"strings"
	"testing"

	"foundry/api"
	"foundry/build"
	"foundry/syntax"
	"foundry/tree"
)

// plenty of fuel for all that is built here.
const plenty = 20000

// draw numbers that are the same each time.
type draw uint64

func (d *draw) below(n int) int {
	*d = *d*6364136223846793005 + 1442695040888963407
	return int(uint64(*d) >> 33 % uint64(n))
}

func (d *draw) of(l ...string) string { return l[d.below(len(l))] }

func shuffle[T any](d *draw, l []T) {
	for i := len(l) - 1; i > 0; i-- {
		j := d.below(i + 1)
		l[i], l[j] = l[j], l[i]
	}
}

func file(path, text string) api.File    { return api.File{Path: path, Text: text} }
func runFile(path, text string) api.File { return api.File{Path: path, Text: text, Run: true} }

func words(s string) []string { return strings.Fields(s) }

// lines of a text, with `; ` between each two.
func lines(s string) []string {
	if s == "" {
		return nil
	}
	return strings.Split(s, "; ")
}

// same tells whether two lists are, an empty one being nil or not.
func same[T any](a, b []T) bool {
	return len(a) == 0 && len(b) == 0 || reflect.DeepEqual(a, b)
}

func sameAction(a, b api.Action) bool {
	return same(a.Command, b.Command) && a.Input == b.Input && same(a.Outputs, b.Outputs) && a.Fuel == b.Fuel
}

func sameBuilt(a, b api.Built) bool {
	return same(a.Files, b.Files) && a.Failed == b.Failed && a.Code == b.Code && a.Ran == b.Ran
}

func rootOf(l ...api.File) string {
	root, e := tree.Root(l)
	if e != api.OK {
		panic("no tree")
	}
	return root
}

// rule that declares a target.
func rule(t api.Target) string {
	list := func(l []string) string {
		var quoted []string
		for _, s := range l {
			quoted = append(quoted, syntax.Quote(s))
		}
		return "[" + strings.Join(quoted, ", ") + "]"
	}
	return "rule(name=" + syntax.Quote(t.Name) + ", sources=" + list(t.Sources) + ", needs=" + list(t.Needs) + ", outs=" + list(t.Outs) + ", command=" + list(t.Command) + ")\n"
}

// target of a name, and of texts for its lists: words, and, of its command, lines.
func target(name, sources, needs, outs, command string) api.Target {
	return api.Target{Name: name, Sources: words(sources), Needs: words(needs), Outs: words(outs), Command: lines(command)}
}

// with a source `main` of targets beside some files.
func with(files []api.File, targets ...api.Target) []api.File {
	var b strings.Builder
	for _, t := range targets {
		b.WriteString(rule(t))
	}
	l := append(slices.Clone(files), file("main", b.String()))
	slices.SortFunc(l, func(f, g api.File) int { return strings.Compare(f.Path, g.Path) })
	return l
}

// comes tells that a build comes to this.
func comes(t *testing.T, files []api.File, name string, fuel int, want api.Built, e api.Errno) {
	t.Helper()
	got, f := build.Build(files, "main", name, fuel)
	if !sameBuilt(got, want) || f != e {
		t.Errorf("Build of %s with %d: %.300v %d, must be %.300v %d", name, fuel, got, f, want, e)
	}
}

// spoiler makes something wrong, for which there is an error.
type spoiler[T any] struct {
	spoil func(T) T
	e     api.Errno
}

// eachPair of spoilers, in the order in which their errors are told, is tried, and each alone: the error of the first one is told. Two of one step spoil the same thing, and do not go together.
func eachPair[T any](good T, steps [][]spoiler[T], try func(given T, want api.Errno)) {
	try(good, api.OK)
	for i, first := range steps {
		for _, s := range first {
			try(s.spoil(good), s.e)
			for _, later := range steps[i+1:] {
				for _, r := range later {
					try(s.spoil(r.spoil(good)), s.e)
				}
			}
		}
	}
}

// wrongTrees, and what Check of chapter 3 says of them.
func wrongTrees() []spoiler[[]api.File] {
	to := func(l ...api.File) func([]api.File) []api.File {
		return func([]api.File) []api.File { return l }
	}
	return []spoiler[[]api.File]{
		{to(make([]api.File, api.MaxFiles+1)...), api.ErrMany},
		{to(file("/", "")), api.ErrForm},
		{to(file("b", strings.Repeat("x", api.MaxText+1))), api.ErrMany},
		{to(file("c", ""), file("b", "")), api.ErrTwice},
		{to(file("b", ""), file("b", "")), api.ErrTwice},
		{to(file("b", ""), file("b-c", ""), file("b/c", "")), api.ErrTwice},
	}
}
