package graph_test

import (
	"fmt"
	"slices"
	"strings"
	"testing"

	"foundry/api"
	"foundry/graph"
)

var hundred = strings.Repeat("abcdefghi/", 9) + "abcdefghij"

// paths are files without texts.
func paths(s string) []api.File {
	var files []api.File
	for _, p := range words(s) {
		files = append(files, api.File{Path: p})
	}
	return files
}

// makes is a target with outs.
func makes(name, outs string) api.Target { return api.Target{Name: name, Outs: words(outs)} }

// takes is a target with sources.
func takes(name, sources string) api.Target { return api.Target{Name: name, Sources: words(sources)} }

// checks tells what Check answers.
func checks(t *testing.T, l []api.Target, files []api.File, name string, want api.Errno) {
	t.Helper()
	if got, e := graph.Check(l, files); got != name || e != want {
		t.Errorf("Check(%.300v, %.200v) = %q %d, must be %q %d", l, files, got, e, name, want)
	}
}

func TestI3CheckOfFilesFirst(t *testing.T) {
	long := strings.Repeat("x", api.MaxText+1)
	for _, c := range []struct {
		files []api.File
		want  api.Errno
	}{
		{make([]api.File, api.MaxFiles+1), api.ErrMany},
		{paths("/"), api.ErrForm},
		{[]api.File{{Path: "a", Text: long}}, api.ErrMany},
		{paths("b a"), api.ErrTwice},
		{paths("a a"), api.ErrTwice},
		{paths("a a-b a/b"), api.ErrTwice},
	} {
		for _, l := range [][]api.Target{nil, targets("a"), targets("A"), targets("a; a"), targets("a: none"), targets("a: a"), make([]api.Target, api.MaxFiles+1), {takes("a", "none")}} {
			checks(t, l, c.files, "", c.want)
		}
	}
}

func TestI3NamesAheadOfTargets(t *testing.T) {
	bad := makes("a", "/")
	bad.Sources, bad.Command = words("none"), make([]string, api.MaxFiles+1)
	checks(t, append(slices.Repeat([]api.Target{bad}, api.MaxFiles), bad), nil, "", api.ErrMany)
	checks(t, append(targets("A"), bad), nil, "", api.ErrForm)
	checks(t, append([]api.Target{bad}, targets("b; b")...), nil, "", api.ErrTwice)
	checks(t, append([]api.Target{bad}, targets("b: none")...), nil, "", api.ErrNone)
	checks(t, append([]api.Target{bad}, targets("b: b")...), nil, "a", api.ErrNone)
}

func TestI3Good(t *testing.T) {
	files := paths("a/x b")
	for _, l := range [][]api.Target{
		nil,
		targets("a"),
		{takes("a", "b a/x b")},
		{makes("a", "a/y a/x.y a-b bb b.x c/d/e")},
		{makes("a", "p"), makes("b", "q/r q/s"), makes("c", "q/t/u p.q p-")},
		{makes("a", hundred)},
		{{Name: "a", Sources: slices.Repeat(words("b"), api.MaxFiles), Command: make([]string, api.MaxFiles)}},
		{{Name: "a", Command: []string{strings.Repeat("x", api.MaxText+1), "no command"}}},
	} {
		checks(t, l, files, "", api.OK)
	}
	var most []api.Target
	for i := range api.MaxFiles {
		u := api.Target{Name: fmt.Sprintf("t%d", i)}
		for j := range api.MaxFiles {
			u.Outs = append(u.Outs, fmt.Sprintf("d%d/f%d", i, j))
		}
		most = append(most, u)
	}
	checks(t, most, files, "", api.OK)
	most[api.MaxFiles-1].Outs[api.MaxFiles-1] = "d0/f0"
	checks(t, most, files, "t59", api.ErrTwice)
}

func TestI3Sources(t *testing.T) {
	files := paths("a/x b")
	for _, s := range []string{"none", "a", "a/", "a/x/y", "b b/c", "B", ".", "b a/x a/y", hundred + "x"} {
		checks(t, []api.Target{takes("t", s)}, files, "t", api.ErrNone)
		checks(t, []api.Target{takes("ok", "b"), takes("t", s), takes("u", s)}, files, "t", api.ErrNone)
		// What a target ahead makes is no file of the tree.
		checks(t, []api.Target{makes("ok", "none"), takes("t", s)}, files, "t", api.ErrNone)
	}
	checks(t, []api.Target{{Name: "t", Sources: []string{""}}}, files, "t", api.ErrNone)
	checks(t, []api.Target{takes("t", "b")}, nil, "t", api.ErrNone)
}

func TestI3Outs(t *testing.T) {
	files := paths("a/x b")
	for _, s := range []string{"/", "A", ".", "..", "o/", "/o", "o//p", "o p/../q", hundred + "x", strings.Repeat("x", api.MaxName+1)} {
		checks(t, []api.Target{makes("t", s)}, files, "t", api.ErrForm)
	}
	checks(t, []api.Target{{Name: "t", Outs: []string{""}}}, files, "t", api.ErrForm)
	checks(t, []api.Target{{Name: "t", Outs: []string{"a b"}}}, files, "t", api.ErrForm)
	for _, s := range []string{"b", "a/x", "a", "b/c", "a/x/y", "o o", "o o/p", "o/p o", "o p o/q/r", "o/p/q x o", "o a"} {
		checks(t, []api.Target{makes("t", s)}, files, "t", api.ErrTwice)
		checks(t, []api.Target{targets("ok")[0], makes("t", s), makes("u", s)}, files, "t", api.ErrTwice)
	}
	for _, s := range []string{"p", "p/q", "p/q/r", "q/r", "q", "q/r/s", "x p"} {
		checks(t, []api.Target{makes("one", "p q/r"), makes("two", "o"), makes("t", s)}, files, "t", api.ErrTwice)
	}
}

func TestI3Many(t *testing.T) {
	files := paths("a b")
	var outs []string
	for i := range api.MaxFiles + 1 {
		outs = append(outs, fmt.Sprintf("o%d", i))
	}
	for _, u := range []api.Target{
		{Name: "t", Sources: slices.Repeat(words("b"), api.MaxFiles+1)},
		{Name: "t", Outs: outs},
		{Name: "t", Command: make([]string, api.MaxFiles+1)},
	} {
		checks(t, []api.Target{u}, files, "t", api.ErrMany)
		checks(t, []api.Target{targets("ok")[0], u, makes("u", "a")}, files, "t", api.ErrMany)
	}
	checks(t, []api.Target{{Name: "t", Outs: outs[:api.MaxFiles]}}, files, "", api.OK)
}

// TestI3Precedence: each thing that is wrong is told ahead of all that come behind it, in one target, and those of a target ahead of those of the next one.
func TestI3Precedence(t *testing.T) {
	files := paths("a b")
	wrong := []struct {
		spoil func(*api.Target)
		want  api.Errno
	}{
		{func(u *api.Target) { u.Sources = append(u.Sources, "none") }, api.ErrNone},
		{func(u *api.Target) { u.Outs = append(u.Outs, "/") }, api.ErrForm},
		{func(u *api.Target) { u.Command = make([]string, api.MaxFiles+1) }, api.ErrMany},
		{func(u *api.Target) { u.Outs = append(u.Outs, "b") }, api.ErrTwice},
	}
	for i, first := range wrong {
		for _, second := range wrong[i:] {
			both := api.Target{Name: "t", Needs: words("t")}
			second.spoil(&both)
			first.spoil(&both)
			checks(t, []api.Target{targets("ok")[0], both}, files, "t", first.want)
		}
		for _, later := range wrong {
			one, two := api.Target{Name: "z", Needs: words("a")}, api.Target{Name: "a", Needs: words("z")}
			first.spoil(&one)
			later.spoil(&two)
			checks(t, []api.Target{one, two}, files, "z", first.want)
		}
	}
	var many []string
	for i := range api.MaxFiles {
		many = append(many, fmt.Sprintf("o%d", i))
	}
	checks(t, []api.Target{{Name: "t", Outs: append(many, "o0")}}, files, "t", api.ErrMany)
	checks(t, []api.Target{{Name: "t", Sources: append(slices.Repeat(words("b"), api.MaxFiles), "none")}}, files, "t", api.ErrNone)
	checks(t, []api.Target{{Name: "t", Outs: append(slices.Repeat(words("o"), api.MaxFiles), "/")}}, files, "t", api.ErrForm)
	checks(t, targets("a: b; b: a"), files, "", api.ErrCircle)
}

// checkModel: what Check must answer, where files and names are right.
func checkModel(l []api.Target, files []api.File) (string, api.Errno) {
	var taken []string
	for _, f := range files {
		taken = append(taken, f.Path)
	}
	sources := slices.Clone(taken)
	for _, u := range l {
		for _, s := range u.Sources {
			if !slices.Contains(sources, s) {
				return u.Name, api.ErrNone
			}
		}
		for _, out := range u.Outs {
			for _, other := range taken {
				if strings.HasPrefix(out+"/", other+"/") || strings.HasPrefix(other+"/", out+"/") {
					return u.Name, api.ErrTwice
				}
			}
			taken = append(taken, out)
		}
	}
	if newModel(l).hasCircle() {
		return "", api.ErrCircle
	}
	return "", api.OK
}

func TestI3DrawnAgainstModel(t *testing.T) {
	d := draw(3)
	files := paths("a/x b c/d/e f")
	pool := words("a a/x a/x/y a/y a- b b/c b.c bb c c/d c/d/e c/d/f f f/g g g/h g/h/i g/i h h/j i j k l m n o p q r s t u v w x y z")
	told := map[api.Errno]int{}
	for range 5000 {
		l := drawn(&d, 4, d.below(4) > 0)
		for i := range l {
			if d.below(3) == 0 {
				l[i].Sources = append(l[i].Sources, files[d.below(len(files))].Path)
			}
			if d.below(15) == 0 {
				l[i].Sources = append(l[i].Sources, pool[d.below(len(pool))])
			}
			for range d.below(4) {
				l[i].Outs = append(l[i].Outs, pool[d.below(len(pool))])
			}
		}
		name, want := checkModel(l, files)
		checks(t, l, files, name, want)
		told[want]++
	}
	for _, e := range []api.Errno{api.OK, api.ErrNone, api.ErrTwice, api.ErrCircle} {
		if told[e] < 50 {
			t.Errorf("%d is told %d times: that is no test", e, told[e])
		}
	}
}
