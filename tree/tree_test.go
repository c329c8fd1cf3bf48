package tree_test

import (
	"fmt"
	"reflect"
	"slices"
	"strings"
	"testing"

	"foundry/api"
	"foundry/tree"
)

var (
	longest = strings.Repeat("x", api.MaxText)
	tooLong = longest + "x"
	hundred = strings.Repeat("abcdefghi/", 9) + "abcdefghij"
)

// draw numbers that are the same each time.
type draw uint64

func (d *draw) below(n int) int {
	*d = *d*6364136223846793005 + 1442695040888963407
	return int(uint64(*d) >> 33 % uint64(n))
}

func file(path, text string) api.File { return api.File{Path: path, Text: text} }

func runFile(path, text string) api.File { return api.File{Path: path, Text: text, Run: true} }

// paths are files without texts.
func paths(l ...string) []api.File {
	var files []api.File
	for _, p := range l {
		files = append(files, file(p, ""))
	}
	return files
}

// numbered are n files in a directory, from the number first on.
func numbered(first, n int) []api.File {
	var files []api.File
	for i := range n {
		files = append(files, file(fmt.Sprintf("d/%03d", first+i), "x"))
	}
	return files
}

// same tells whether two lists are, an empty one being nil or not.
func same[T any](a, b []T) bool {
	return len(a) == 0 && len(b) == 0 || reflect.DeepEqual(a, b)
}

// pool of paths that often meet one another.
func pool() []string {
	return []string{"a", "a-b", "a.b", "a/x", "a/x/y", "a/x-y", "a/y", "a0", "a/x.y", "b", "b/c", "b/c/d", "b/c/e", "b-", "ab", "c/d/e/f", "c", "_"}
}

// drawn files of the pool; they are a tree where ordered and apart are.
func drawn(d *draw, most int) []api.File {
	var files []api.File
	for range d.below(most + 1) {
		p := pool()
		files = append(files, api.File{Path: p[d.below(len(p))], Text: fmt.Sprint(d.below(3)), Run: d.below(3) == 0})
	}
	return files
}

// drawnTree is what is left of drawn files that is a tree.
func drawnTree(d *draw, most int) []api.File {
	var l []api.File
	for _, f := range drawn(d, most) {
		if !slices.ContainsFunc(l, func(g api.File) bool { return meet(f.Path, g.Path) }) {
			l = append(l, f)
		}
	}
	slices.SortFunc(l, func(f, g api.File) int { return strings.Compare(f.Path, g.Path) })
	return l
}

func meet(a, b string) bool {
	return a == b || strings.HasPrefix(a, b+"/") || strings.HasPrefix(b, a+"/")
}

func TestC1Meets(t *testing.T) {
	for _, c := range []struct {
		a, b string
		want bool
	}{
		{"a", "a", true},
		{"a", "a/b", true},
		{"a", "a/b/c", true},
		{"a/b", "a/b/c", true},
		{"a", "ab", false},
		{"a", "a-b", false},
		{"a/b", "a/c", false},
		{"a/b", "b", false},
		{"a", "b/a", false},
		{"", "", true},
		{"", "/", true},
		{"", "/a", true},
		{"", "a", false},
		{"a", "a/", true},
		{"a/", "a/b", false},
		{"a/", "a//", true},
		{"\xff", "\xff/", true},
	} {
		if tree.Meets(c.a, c.b) != c.want || tree.Meets(c.b, c.a) != c.want {
			t.Errorf("Meets of %q and %q must be %v", c.a, c.b, c.want)
		}
	}
	for _, a := range pool() {
		for _, b := range pool() {
			if tree.Meets(a, b) != meet(a, b) {
				t.Errorf("Meets(%q, %q) = %v", a, b, tree.Meets(a, b))
			}
		}
	}
}

// badTree is what is no tree, and why.
type badTree struct {
	l []api.File
	e api.Errno
}

func badTrees() []badTree {
	sixtyOne := numbered(0, api.MaxFiles+1)
	return []badTree{
		{sixtyOne, api.ErrMany},
		{make([]api.File, api.MaxFiles+1), api.ErrMany},
		{make([]api.File, api.MaxFiles), api.ErrForm},
		{paths(""), api.ErrForm},
		{paths("/"), api.ErrForm},
		{paths("a", "a/../b"), api.ErrForm},
		{paths("A"), api.ErrForm},
		{paths(hundred + "k"), api.ErrForm},
		{[]api.File{file("a", tooLong)}, api.ErrMany},
		{[]api.File{file("/", tooLong)}, api.ErrForm},
		{[]api.File{file("a", tooLong), file("/", "")}, api.ErrMany},
		{[]api.File{file("a", ""), file("/", ""), file("b", tooLong)}, api.ErrForm},
		{paths("b", "a", "/"), api.ErrForm},
		{[]api.File{file("b", ""), file("a", ""), file("c", tooLong)}, api.ErrMany},
		{paths("b", "a"), api.ErrTwice},
		{paths("a", "c", "b"), api.ErrTwice},
		{paths("a", "a"), api.ErrTwice},
		{[]api.File{file("a", "1"), runFile("a", "2")}, api.ErrTwice},
		{paths("a", "a/b"), api.ErrTwice},
		{paths("a", "a-b", "a.b", "a/b"), api.ErrTwice},
		{paths("a/b", "a/b-c/d", "a/b/c/d"), api.ErrTwice},
		{paths("a/b", "a"), api.ErrTwice},
		{paths("a/x", "a-b"), api.ErrTwice},
	}
}

func goodTrees() [][]api.File {
	return [][]api.File{
		nil,
		{},
		paths("a"),
		paths("a", "ab", "b/a"),
		paths("a-b", "a/x"),
		paths("a-b/c", "a.b/c", "a/x", "a0"),
		paths(hundred),
		paths(strings.Repeat("a/", 49) + "a"),
		{file("a", longest), runFile("b", longest)},
		{file("a/b", "1"), runFile("a/c", "1"), file("b/c/d/e", "\x00\xff")},
		numbered(0, api.MaxFiles),
	}
}

func TestC1Check(t *testing.T) {
	for _, l := range goodTrees() {
		if e := tree.Check(l); e != api.OK {
			t.Errorf("Check(%.200v) = %d", l, e)
		}
	}
	for i, b := range badTrees() {
		if e := tree.Check(b.l); e != b.e {
			t.Errorf("%d: Check(%.200v) = %d, must be %d", i, b.l, e, b.e)
		}
	}
}

func TestC1CheckOfDrawnFiles(t *testing.T) {
	d := draw(1)
	kinds := map[api.Errno]int{}
	for range 3000 {
		l := drawn(&d, 4)
		if d.below(2) == 0 {
			slices.SortFunc(l, func(f, g api.File) int { return strings.Compare(f.Path, g.Path) })
		}
		want := api.OK
		for i, f := range l {
			for _, g := range l[:i] {
				if meet(f.Path, g.Path) || g.Path > f.Path {
					want = api.ErrTwice
				}
			}
		}
		kinds[want]++
		if e := tree.Check(l); e != want {
			t.Fatalf("Check(%v) = %d, must be %d", l, e, want)
		}
	}
	if kinds[api.OK] < 100 || kinds[api.ErrTwice] < 100 {
		t.Errorf("too few of a kind: %v", kinds)
	}
}

func TestC1AllThatAreHandedTreesTellCheckFirst(t *testing.T) {
	good := paths("a")
	for i, b := range badTrees() {
		root, e1 := tree.Root(b.l)
		blobs, e2 := tree.Blobs(b.l)
		under, e3 := tree.Under(b.l, "/")
		low, e4 := tree.Over(b.l, good)
		high, e5 := tree.Over(good, b.l)
		left, e6 := tree.Differs(b.l, good)
		right, e7 := tree.Differs(good, b.l)
		for k, e := range []api.Errno{e1, e2, e3, e4, e5, e6, e7} {
			if e != b.e {
				t.Errorf("%d: call %d answers %d, must be %d", i, k, e, b.e)
			}
		}
		if root != "" || len(blobs)+len(under)+len(low)+len(high)+len(left)+len(right) != 0 {
			t.Errorf("%d: something beside an error", i)
		}
		for k, c := range badTrees() {
			_, e8 := tree.Over(b.l, c.l)
			_, e9 := tree.Differs(b.l, c.l)
			if e8 != b.e || e9 != b.e {
				t.Errorf("%d, %d: Over %d, Differs %d, must be %d", i, k, e8, e9, b.e)
			}
		}
	}
}

func TestC4Under(t *testing.T) {
	l := []api.File{file("a-b", "1"), file("a/b", "2"), runFile("a/c/d", "3"), file("a/c/e", "4"), file("ab/c", "5"), file("b", "6")}
	for _, c := range []struct {
		dir  string
		want []api.File
		e    api.Errno
	}{
		{"a", []api.File{file("b", "2"), runFile("c/d", "3"), file("c/e", "4")}, api.OK},
		{"a/c", []api.File{runFile("d", "3"), file("e", "4")}, api.OK},
		{"ab", []api.File{file("c", "5")}, api.OK},
		{"a/b", nil, api.ErrNone},
		{"b", nil, api.ErrNone},
		{"none", nil, api.ErrNone},
		{"a-", nil, api.ErrNone},
		{"c", nil, api.ErrNone},
		{"", nil, api.ErrForm},
		{".", nil, api.ErrForm},
		{"a/", nil, api.ErrForm},
		{"/a", nil, api.ErrForm},
		{hundred, nil, api.ErrNone},
		{hundred + "k", nil, api.ErrForm},
	} {
		got, e := tree.Under(l, c.dir)
		if !same(got, c.want) || e != c.e {
			t.Errorf("Under %q: %v %d", c.dir, got, e)
		}
	}
	if got, e := tree.Under(nil, "a"); len(got) != 0 || e != api.ErrNone {
		t.Errorf("Under of nothing: %v %d", got, e)
	}
}

func TestC4Over(t *testing.T) {
	for i, c := range []struct {
		l, more, want []api.File
		e             api.Errno
	}{
		{nil, nil, nil, api.OK},
		{paths("a"), nil, paths("a"), api.OK},
		{nil, paths("a"), paths("a"), api.OK},
		{paths("b", "d"), paths("a", "c", "e"), paths("a", "b", "c", "d", "e"), api.OK},
		{[]api.File{file("a", "1"), file("b", "1")}, []api.File{runFile("a", "2")}, []api.File{runFile("a", "2"), file("b", "1")}, api.OK},
		{[]api.File{runFile("a", "1")}, []api.File{file("a", "1")}, []api.File{file("a", "1")}, api.OK},
		{paths("a/b"), paths("a-b", "a/c"), paths("a-b", "a/b", "a/c"), api.OK},
		{paths("a"), paths("a-b", "a/b"), nil, api.ErrTwice},
		{paths("a-b", "a/b"), paths("a"), nil, api.ErrTwice},
		{paths("a/b/c"), paths("a/b"), nil, api.ErrTwice},
		{numbered(0, 60), numbered(30, 30), numbered(0, 60), api.OK},
		{numbered(0, 30), numbered(30, 30), numbered(0, 60), api.OK},
		{numbered(0, 30), numbered(30, 31), nil, api.ErrMany},
		{numbered(0, 60), numbered(60, 1), nil, api.ErrMany},
		{numbered(0, 60), numbered(60, 60), nil, api.ErrMany},
		{numbered(0, 60), paths("d"), nil, api.ErrTwice},
		{paths("d"), numbered(0, 60), nil, api.ErrTwice},
	} {
		got, e := tree.Over(c.l, c.more)
		if !same(got, c.want) || e != c.e {
			t.Errorf("%d: Over: %v %d", i, got, e)
		}
	}
}

func TestC4Differs(t *testing.T) {
	for i, c := range []struct {
		a, b []api.File
		want []string
	}{
		{nil, nil, nil},
		{paths("a"), paths("a"), nil},
		{paths("a", "c"), paths("b", "c"), []string{"a", "b"}},
		{[]api.File{file("a", "1")}, []api.File{file("a", "2")}, []string{"a"}},
		{[]api.File{file("a", "1")}, []api.File{runFile("a", "1")}, []string{"a"}},
		{[]api.File{file("a", ""), file("b", "1"), file("d", "")}, []api.File{file("b", "2"), file("c", ""), file("d", "")}, []string{"a", "b", "c"}},
		{paths("a"), paths("a-b", "a/b"), []string{"a", "a-b", "a/b"}},
		{paths("a/c"), paths("a-b", "a/b"), []string{"a-b", "a/b", "a/c"}},
	} {
		got, e := tree.Differs(c.a, c.b)
		back, g := tree.Differs(c.b, c.a)
		if !same(got, c.want) || !same(back, c.want) || e != api.OK || g != api.OK {
			t.Errorf("%d: Differs: %v %d; %v %d", i, got, e, back, g)
		}
	}
	all, e := tree.Differs(numbered(0, 60), numbered(60, 60))
	if len(all) != 120 || !slices.IsSorted(all) || e != api.OK {
		t.Errorf("Differs of all: %v %d", all, e)
	}
}

// wantOver is Over of trees, found by looking at each pair.
func wantOver(l, more []api.File) ([]api.File, api.Errno) {
	both := slices.Clone(more)
	for _, f := range l {
		twice := false
		for _, g := range more {
			if f.Path != g.Path && meet(f.Path, g.Path) {
				return nil, api.ErrTwice
			}
			twice = twice || f.Path == g.Path
		}
		if !twice {
			both = append(both, f)
		}
	}
	slices.SortFunc(both, func(f, g api.File) int { return strings.Compare(f.Path, g.Path) })
	return both, api.OK
}

func TestC4C5OverAndDiffersOfDrawnTrees(t *testing.T) {
	d := draw(2)
	for range 3000 {
		a, b := drawnTree(&d, 4), drawnTree(&d, 4)
		want, g := wantOver(a, b)
		got, e := tree.Over(a, b)
		if !same(got, want) || e != g {
			t.Fatalf("Over(%v, %v) = %v %d, must be %v %d", a, b, got, e, want, g)
		}
		var other []string
		for _, p := range pool() {
			f := slices.IndexFunc(a, func(f api.File) bool { return f.Path == p })
			g := slices.IndexFunc(b, func(f api.File) bool { return f.Path == p })
			if f < 0 && g < 0 || f >= 0 && g >= 0 && a[f] == b[g] {
				continue
			}
			other = append(other, p)
		}
		slices.Sort(other)
		if differs, e := tree.Differs(a, b); !same(differs, other) || e != api.OK {
			t.Fatalf("Differs(%v, %v) = %v %d, must be %v", a, b, differs, e, other)
		}
	}
}

func TestC5OverIsTheSameInWhateverOrderOneLays(t *testing.T) {
	d := draw(3)
	laid := 0
	for range 3000 {
		a, b, c := drawnTree(&d, 3), drawnTree(&d, 3), drawnTree(&d, 3)
		low, e1 := tree.Over(a, b)
		high, e2 := tree.Over(b, c)
		if e1 == api.OK {
			low, e1 = tree.Over(low, c)
		}
		if e2 == api.OK {
			high, e2 = tree.Over(a, high)
		}
		if e1 != e2 || e1 == api.OK && !same(low, high) {
			t.Fatalf("%v, %v, %v: %v %d, %v %d", a, b, c, low, e1, high, e2)
		}
		if e1 == api.OK {
			laid++
		}
	}
	if laid < 100 {
		t.Errorf("only %d were laid", laid)
	}
}

func TestP2WhatIsHandedInIsOnlyRead(t *testing.T) {
	spare := append(make([]api.File, 0, 10), file("a-b", "1"), file("a/b", "2"), runFile("c", "3"))
	more := append(make([]api.File, 0, 10), file("a/d", "4"), file("c", "5"))
	wasSpare, wasMore := slices.Clone(spare[:10]), slices.Clone(more[:10])
	root, _ := tree.Root(spare)
	blobs, _ := tree.Blobs(spare)
	slices.Reverse(blobs)
	wasBlobs := slices.Clone(blobs)
	tree.Check(spare)
	tree.Flat(root, blobs)
	tree.Under(spare, "a")
	tree.Over(spare, more)
	tree.Differs(spare, more)
	if !slices.Equal(spare[:10], wasSpare) || !slices.Equal(more[:10], wasMore) || !slices.Equal(blobs, wasBlobs) {
		t.Error("what was handed in was changed")
	}
}

func TestP2P3AnswersAreTheCallersAndTheSame(t *testing.T) {
	l, more := []api.File{file("a/b", "1"), runFile("c", "2")}, paths("a/d", "e")
	was, wasMore := slices.Clone(l), slices.Clone(more)
	ask := func() ([]string, [][]api.File, []string) {
		root, _ := tree.Root(l)
		blobs, _ := tree.Blobs(l)
		flat, _ := tree.Flat(root, blobs)
		under, _ := tree.Under(l, "a")
		over, _ := tree.Over(l, more)
		low, _ := tree.Over(l, nil)
		high, _ := tree.Over(nil, more)
		differs, _ := tree.Differs(l, more)
		return blobs, [][]api.File{flat, under, over, low, high}, differs
	}
	blobs, files, differs := ask()
	for _, k := range files {
		clear(k)
	}
	clear(blobs)
	clear(differs)
	if !slices.Equal(l, was) || !slices.Equal(more, wasMore) {
		t.Error("an answer shares memory with what was handed in")
	}
	b1, f1, d1 := ask()
	b2, f2, d2 := ask()
	if !reflect.DeepEqual(b1, b2) || !reflect.DeepEqual(f1, f2) || !reflect.DeepEqual(d1, d2) {
		t.Error("other answers at another time")
	}
	if !slices.Equal(f1[0], was) || !slices.Equal(f1[3], was) || !slices.Equal(f1[4], wasMore) {
		t.Errorf("%v", f1)
	}
}
