package eval_test

import (
	"fmt"
	"slices"
	"strings"
	"testing"

	"foundry/api"
	"foundry/eval"
)

// tree of files, by turns a path and a text.
func tree(parts ...string) []api.File {
	var l []api.File
	for i := 0; i < len(parts); i += 2 {
		l = append(l, api.File{Path: parts[i], Text: parts[i+1]})
	}
	slices.SortFunc(l, func(a, b api.File) int { return strings.Compare(a.Path, b.Path) })
	return l
}

// outcome is all that Run answers.
type outcome struct {
	targets []api.Target
	globals []api.Global
	burnt   int
	err     api.Errno
}

func run(files []api.File, fuel int) outcome {
	var o outcome
	o.targets, o.globals, o.burnt, o.err = eval.Run(files, "main", fuel)
	return o
}

// has: what names have, each as it is written.
func (o outcome) has() string {
	var l []string
	for _, g := range o.globals {
		l = append(l, g.Name+"="+g.Text)
	}
	return strings.Join(l, "; ")
}

func same(a, b outcome) bool {
	return a.err == b.err && a.burnt == b.burnt && slices.Equal(a.globals, b.globals) && fmt.Sprintf("%q", a.targets) == fmt.Sprintf("%q", b.targets)
}

// needs is how much fuel there must be, so that it is not the fuel that ends it; with more of it nothing changes.
func needs(t *testing.T, files []api.File) int {
	t.Helper()
	want := run(files, api.MaxFuel)
	low, high := 0, api.MaxFuel
	for low < high {
		middle := (low + high) / 2
		if run(files, middle).err == api.ErrFuel {
			low = middle + 1
		} else {
			high = middle
		}
	}
	if !same(run(files, high), want) {
		t.Errorf("%.500s: with the fuel %d it is %v, with more %v", fmt.Sprint(files), high, run(files, high), want)
	}
	if high > 0 && !same(run(files, high-1), outcome{err: api.ErrFuel}) {
		t.Errorf("%.500s: with the fuel %d it is %v", fmt.Sprint(files), high-1, run(files, high-1))
	}
	return high
}

// comes tells that a source comes to these names, and burns so much.
func comes(t *testing.T, source, want string, burnt int, files ...string) {
	t.Helper()
	all := tree(append(files, "main", source)...)
	o := run(all, api.MaxFuel)
	if o.err != api.OK || o.has() != want || o.burnt != burnt {
		t.Errorf("%.500q: %.300q %d, error %d; must be %.300q %d", source, o.has(), o.burnt, o.err, want, burnt)
		return
	}
	if n := needs(t, all); n != burnt {
		t.Errorf("%.500q: needs %d, must need %d", source, n, burnt)
	}
}

// fails tells which error a source meets, when it has burnt so much.
func fails(t *testing.T, source string, e api.Errno, burnt int, files ...string) {
	t.Helper()
	all := tree(append(files, "main", source)...)
	if o := run(all, api.MaxFuel); !same(o, outcome{err: e}) {
		t.Errorf("%.500q: %v, must be the error %d", source, o, e)
		return
	}
	if n := needs(t, all); n != burnt {
		t.Errorf("%.500q: needs %d, must need %d", source, n, burnt)
	}
}

// is tells what an expression comes to; what it burns is not looked at.
func is(t *testing.T, expression, want string) {
	t.Helper()
	o := run(tree("main", "x = "+expression), api.MaxFuel)
	if o.err != api.OK || !slices.Contains(o.globals, api.Global{Name: "x", Text: want}) {
		t.Errorf("%.500q: %.300q, error %d; must be %.300q", expression, o.has(), o.err, want)
	}
}

// wrong tells which error an expression meets; what it burns is not looked at.
func wrong(t *testing.T, expression string, e api.Errno) {
	t.Helper()
	if o := run(tree("main", "x = "+expression), api.MaxFuel); !same(o, outcome{err: e}) {
		t.Errorf("%.500q: %v, must be the error %d", expression, o, e)
	}
}

// long is an expression that comes to a text of so many bytes, which are all a.
func long(n int) string {
	s := fmt.Sprintf(`join("", [join("", ["%s" for i in range(100)]) for j in range(%d)])`, strings.Repeat("a", 100), n/10000)
	s += fmt.Sprintf(` + join("", ["%s" for i in range(%d)])`, strings.Repeat("a", 100), n%10000/100)
	return s + fmt.Sprintf(` + "%s"`, strings.Repeat("a", n%100))
}
