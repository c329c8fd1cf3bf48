package tree_test

import (
	"fmt"
	"slices"
	"strings"
	"testing"

	"foundry/api"
	"foundry/digest"
	"foundry/tree"
	"foundry/wire"
)

// node of a directory, by the text that it is of.
func node(name string, kind int, text string) api.Node {
	return api.Node{Name: name, Kind: kind, Digest: digest.Sum(text)}
}

// dir is how a directory is packed.
func dir(nodes ...api.Node) string {
	text, e := wire.Nodes(nodes)
	if e != api.OK {
		panic(fmt.Sprint(nodes, " are not packed: ", e))
	}
	return text
}

// chain of directories, one in another, each of which has one node alone; that of the last one is of a kind, and has a text. Answered are all its texts, the whole first.
func chain(names []string, kind int, text string) []string {
	texts := []string{text}
	for _, name := range slices.Backward(names) {
		text = dir(node(name, kind, text))
		texts = append(texts, text)
		kind = api.NodeTree
	}
	slices.Reverse(texts)
	return texts
}

// crowd is a directory with n files, named by numbers, which have one text.
func crowd(n int, text string) string {
	var nodes []api.Node
	for i := range n {
		nodes = append(nodes, node(fmt.Sprintf("%03d", i), api.NodeFile, text))
	}
	return dir(nodes...)
}

func TestC2RootAndBlobs(t *testing.T) {
	deep := dir(node("d", api.NodeRun, "3"), node("e", api.NodeFile, "2"))
	a := dir(node("b", api.NodeFile, "2"), node("c", api.NodeTree, deep))
	for i, c := range []struct {
		l     []api.File
		whole string
		more  []string
	}{
		{nil, "\x00", nil},
		{[]api.File{file("a", "x")}, dir(node("a", api.NodeFile, "x")), []string{"x"}},
		{[]api.File{runFile("a", "x")}, dir(node("a", api.NodeRun, "x")), []string{"x"}},
		{[]api.File{file("a/b", "x")}, dir(node("a", api.NodeTree, dir(node("b", api.NodeFile, "x")))), []string{"x", dir(node("b", api.NodeFile, "x"))}},
		{
			[]api.File{file("a-b", "1"), file("a/b", "2"), runFile("a/c/d", "3"), file("a/c/e", "2"), file("z", "")},
			dir(node("a", api.NodeTree, a), node("a-b", api.NodeFile, "1"), node("z", api.NodeFile, "")),
			[]string{"", "1", "2", "3", a, deep},
		},
		{
			// Two directories that are the same are one blob, and a file may have the text of one.
			[]api.File{runFile("p/d", "3"), file("p/e", "2"), runFile("q/d", "3"), file("q/e", "2"), file("r", deep)},
			dir(node("p", api.NodeTree, deep), node("q", api.NodeTree, deep), node("r", api.NodeFile, deep)),
			[]string{"2", "3", deep},
		},
	} {
		want := append(slices.Clone(c.more), c.whole)
		slices.Sort(want)
		root, e := tree.Root(c.l)
		blobs, g := tree.Blobs(c.l)
		if root != digest.Sum(c.whole) || e != api.OK || !slices.Equal(blobs, want) || g != api.OK {
			t.Errorf("%d: Root %s %d, Blobs %q %d, must be %q", i, root, e, blobs, g, want)
		}
	}
}

func TestC3FlatOfNoTreeAtAll(t *testing.T) {
	empty := digest.Sum("\x00")
	for i, c := range []struct {
		root  string
		blobs []string
		e     api.Errno
	}{
		{empty, []string{"\x00"}, api.OK},
		{empty, nil, api.ErrNone},
		{"", nil, api.ErrForm},
		{"x", []string{"\x00"}, api.ErrForm},
		{strings.ToUpper(empty), []string{"\x00"}, api.ErrForm},
		{empty + "0", []string{"\x00"}, api.ErrForm},
		{empty, append(make([]string, api.MaxTexts-1), "\x00"), api.OK},
		{empty, append(make([]string, api.MaxTexts), "\x00"), api.ErrMany},
		{"x", make([]string, api.MaxTexts+1), api.ErrMany},
		{empty, []string{longest, "\x00"}, api.OK},
		{empty, []string{"\x00", tooLong}, api.ErrMany},
		{"x", []string{tooLong}, api.ErrMany},
		{digest.Sum(""), []string{""}, api.ErrForm},
		{digest.Sum("x"), []string{"x"}, api.ErrForm},
		{digest.Sum("\x00\x00"), []string{"\x00\x00"}, api.ErrForm},
	} {
		got, e := tree.Flat(c.root, c.blobs)
		if len(got) != 0 || e != c.e {
			t.Errorf("%d: Flat: %v %d, must be %d", i, got, e, c.e)
		}
	}
}

func TestC3FlatTellsWhatIsMetFirst(t *testing.T) {
	fine := dir(node("x", api.NodeFile, "text"))
	noNodes := "\x00"
	for i, c := range []struct {
		nodes []api.Node
		want  []api.File
		e     api.Errno
	}{
		{[]api.Node{node("a", api.NodeTree, fine), node("a-b", api.NodeRun, "text")}, []api.File{runFile("a-b", "text"), file("a/x", "text")}, api.OK},
		{[]api.Node{node("a", api.NodeFile, fine), node("b", api.NodeTree, fine)}, []api.File{file("a", fine), file("b/x", "text")}, api.OK},
		{[]api.Node{node("a", api.NodeFile, "missing")}, nil, api.ErrNone},
		{[]api.Node{node("a", api.NodeRun, "missing")}, nil, api.ErrNone},
		{[]api.Node{node("a", api.NodeTree, "missing")}, nil, api.ErrNone},
		{[]api.Node{node("a", api.NodeTree, "text")}, nil, api.ErrForm},
		{[]api.Node{node("a", api.NodeTree, noNodes)}, nil, api.ErrState},
		{[]api.Node{node("a", api.NodeFile, noNodes)}, []api.File{file("a", noNodes)}, api.OK},
		{[]api.Node{node("a", api.NodeFile, "missing"), node("b", api.NodeTree, "text")}, nil, api.ErrNone},
		{[]api.Node{node("a", api.NodeTree, "text"), node("b", api.NodeTree, noNodes), node("c", api.NodeFile, "missing")}, nil, api.ErrForm},
		{[]api.Node{node("a", api.NodeTree, noNodes), node("b", api.NodeTree, "text"), node("c", api.NodeFile, "missing")}, nil, api.ErrState},
		{[]api.Node{node("a", api.NodeTree, dir(node("x", api.NodeTree, noNodes))), node("b", api.NodeTree, "text")}, nil, api.ErrState},
		{[]api.Node{node("a", api.NodeTree, dir(node("x", api.NodeFile, "missing"))), node("b", api.NodeTree, noNodes)}, nil, api.ErrNone},
		{[]api.Node{node("a", api.NodeTree, fine), node("b", api.NodeTree, noNodes)}, nil, api.ErrState},
	} {
		whole := dir(c.nodes...)
		blobs := []string{"text", noNodes, fine, whole, dir(node("x", api.NodeTree, noNodes)), dir(node("x", api.NodeFile, "missing"))}
		got, e := tree.Flat(digest.Sum(whole), blobs)
		if !same(got, c.want) || e != c.e {
			t.Errorf("%d: Flat: %v %d, must be %v %d", i, got, e, c.want, c.e)
		}
	}
}

func TestC3FlatOfLongPaths(t *testing.T) {
	names := strings.Split(hundred, "/")
	longer := append(slices.Clone(names[:9]), "abcdefghijk")
	fifty := slices.Repeat([]string{"a"}, 50)
	for i, c := range []struct {
		names []string
		text  string
		drop  int // a text that is missing, counted from the last one
		e     api.Errno
	}{
		{names, "x", 0, api.OK},
		{fifty, "x", 0, api.OK},
		{longer, "x", 0, api.ErrMany},
		{append(slices.Clone(fifty), "a"), "x", 0, api.ErrMany},
		{slices.Repeat([]string{"a"}, 1000), "x", 0, api.ErrMany},
		// Where a file's text is missing, that is named first.
		{longer, "x", 1, api.ErrNone},
		// A directory has a path too: what is in it is not met any more.
		{append(slices.Clone(longer), "a"), "x", 1, api.ErrMany},
		{append(slices.Clone(longer), "a"), "x", 2, api.ErrNone},
		{append(slices.Clone(names), "a"), "x", 1, api.ErrNone},
		{append(slices.Clone(names), "a"), "x", 0, api.ErrMany},
	} {
		texts := chain(c.names, api.NodeFile, c.text)
		root := digest.Sum(texts[0])
		if c.drop > 0 {
			texts = slices.Delete(texts, len(texts)-c.drop, len(texts)-c.drop+1)
		}
		got, e := tree.Flat(root, texts)
		want := []api.File{file(strings.Join(c.names, "/"), c.text)}
		if e != c.e || e == api.OK && !same(got, want) || e != api.OK && len(got) != 0 {
			t.Errorf("%d: Flat: %v %d, must be %d", i, got, e, c.e)
		}
	}
}

func TestC3FlatOfLongPathsOfDirectories(t *testing.T) {
	names := append(strings.Split(hundred, "/")[:9], "abcdefghijk")
	for _, c := range []struct {
		text string
		e    api.Errno
	}{
		{"x", api.ErrForm},
		{"\x00", api.ErrState},
		{dir(node("a", api.NodeFile, "x")), api.ErrMany},
	} {
		texts := chain(names, api.NodeTree, c.text)
		if _, e := tree.Flat(digest.Sum(texts[0]), append(texts, "x")); e != c.e {
			t.Errorf("Flat with %q: %d, must be %d", c.text, e, c.e)
		}
	}
}

func TestC3FlatOfManyFiles(t *testing.T) {
	sixty, half := crowd(api.MaxFiles, "x"), crowd(30, "x")
	last := func(text string) string {
		return dir(node("a", api.NodeTree, sixty), node("b", api.NodeFile, text))
	}
	twice := dir(node("a", api.NodeTree, half), node("b", api.NodeTree, half))
	thrice := dir(node("a", api.NodeTree, half), node("b", api.NodeTree, half), node("c", api.NodeTree, dir(node("d", api.NodeFile, "x"))))
	// Each has the one ahead of it twice: were all of it gone through, there would be no end.
	doubled := []string{dir(node("a", api.NodeFile, "x"))}
	for i := range 40 {
		doubled = append(doubled, dir(node("a", api.NodeTree, doubled[i]), node("b", api.NodeTree, doubled[i])))
	}
	blobs := append([]string{"x", "\x00", sixty, half, last("x"), last("missing"), twice, thrice, dir(node("d", api.NodeFile, "x"))}, doubled...)
	for i, c := range []struct {
		whole string
		files int
		e     api.Errno
	}{
		{sixty, 60, api.OK},
		{twice, 60, api.OK},
		{last("x"), 0, api.ErrMany},
		{last("missing"), 0, api.ErrNone},
		{thrice, 0, api.ErrMany},
		{doubled[5], 32, api.OK},
		{doubled[40], 0, api.ErrMany},
	} {
		got, e := tree.Flat(digest.Sum(c.whole), blobs)
		if len(got) != c.files || e != c.e {
			t.Errorf("%d: Flat: %d files %d, must be %d files %d", i, len(got), e, c.files, c.e)
		}
	}
	full := dir(node("a", api.NodeTree, sixty), node("b", api.NodeTree, "\x00"))
	if _, e := tree.Flat(digest.Sum(full), append(blobs, full)); e != api.ErrState {
		t.Errorf("a directory without nodes behind 60 files: %d", e)
	}
}

func TestC5ATreeIsFlattenedAsItWas(t *testing.T) {
	d := draw(4)
	l := goodTrees()
	for range 500 {
		l = append(l, drawnTree(&d, 8))
	}
	for _, k := range l {
		root, _ := tree.Root(k)
		blobs, _ := tree.Blobs(k)
		if !slices.IsSorted(blobs) || len(slices.Compact(slices.Clone(blobs))) != len(blobs) {
			t.Fatalf("Blobs of %.200v do not rise", k)
		}
		got, e := tree.Flat(root, blobs)
		if !same(got, k) || e != api.OK {
			t.Fatalf("Flat of %.200v: %.200v %d", k, got, e)
		}
		for i := range blobs {
			if _, e := tree.Flat(root, slices.Delete(slices.Clone(blobs), i, i+1)); e != api.ErrNone {
				t.Fatalf("Flat of %.200v without blob %d: %d", k, i, e)
			}
		}
		mixed := append(slices.Concat(blobs, blobs), "other", "")
		slices.Reverse(mixed)
		if got, e := tree.Flat(root, mixed); !same(got, k) || e != api.OK {
			t.Fatalf("Flat of %.200v with more texts: %.200v %d", k, got, e)
		}
	}
}

func TestC5TreesThatHaveOneRootAreOne(t *testing.T) {
	d := draw(5)
	seen := map[string][]api.File{}
	for range 3000 {
		l := drawnTree(&d, 4)
		root, e := tree.Root(l)
		if e != api.OK {
			t.Fatalf("Root(%v): %d", l, e)
		}
		if k, there := seen[root]; there && !same(k, l) {
			t.Fatalf("%v and %v have one root", k, l)
		}
		seen[root] = l
	}
	if len(seen) < 500 {
		t.Errorf("only %d trees", len(seen))
	}
}
