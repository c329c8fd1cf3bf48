package wire_test

import (
	"fmt"
	"reflect"
	"slices"
	"strings"
	"testing"

	"foundry/api"
	"foundry/digest"
	"foundry/wire"
)

var (
	dA   = digest.Sum("a")
	dB   = digest.Sum("b")
	long = strings.Repeat("x", api.MaxText+1)
)

// draw numbers that are the same each time.
type draw uint64

func (d *draw) below(n int) int {
	*d = *d*6364136223846793005 + 1442695040888963407
	return int(uint64(*d) >> 33 % uint64(n))
}

func TestB1IsNameAndIsPathOfEachByte(t *testing.T) {
	for c := range 256 {
		for _, form := range []string{"%s", "a%sb"} {
			s := fmt.Sprintf(form, string([]byte{byte(c)}))
			name := strings.IndexByte("abcdefghijklmnopqrstuvwxyz0123456789_-.", byte(c)) >= 0 && s != "."
			path := name || s == "a/b"
			if wire.IsName(s) != name || wire.IsPath(s) != path {
				t.Errorf("%q: IsName %v, IsPath %v", s, wire.IsName(s), wire.IsPath(s))
			}
		}
	}
}

func TestB1IsNameAndIsPath(t *testing.T) {
	twenty := strings.Repeat("n", api.MaxName)
	hundred := strings.Repeat("abcdefghi/", 9) + "abcdefghij"
	for _, c := range []struct {
		s          string
		name, path bool
	}{
		{"", false, false},
		{".", false, false},
		{"..", false, false},
		{"...", true, true},
		{".a", true, true},
		{"-", true, true},
		{"a\n", false, false},
		{"é", false, false},
		{twenty, true, true},
		{twenty + "n", false, false},
		{"a/b/c", false, true},
		{"/", false, false},
		{"/a", false, false},
		{"a/", false, false},
		{"a//b", false, false},
		{"a/./b", false, false},
		{"../a", false, false},
		{"a/..", false, false},
		{"a/.../b", false, true},
		{"a/" + twenty + "/b", false, true},
		{"a/" + twenty + "n", false, false},
		{hundred, false, true},
		{hundred + "k", false, false},
		{strings.Repeat("a/", 49) + "a", false, true},
		{strings.Repeat("a/", 50) + "a", false, false},
	} {
		if wire.IsName(c.s) != c.name || wire.IsPath(c.s) != c.path {
			t.Errorf("%q: IsName %v, IsPath %v", c.s, wire.IsName(c.s), wire.IsPath(c.s))
		}
	}
}

func TestB1Number(t *testing.T) {
	for _, c := range []struct {
		n    int
		want string
		e    api.Errno
	}{
		{0, "\x00", api.OK},
		{1, "\x01", api.OK},
		{127, "\x7f", api.OK},
		{128, "\x80\x01", api.OK},
		{300, "\xac\x02", api.OK},
		{16383, "\xff\x7f", api.OK},
		{16384, "\x80\x80\x01", api.OK},
		{1 << 49, "\x80\x80\x80\x80\x80\x80\x80\x01", api.OK},
		{1<<49 - 1, "\xff\xff\xff\xff\xff\xff\x7f", api.OK},
		{api.MaxNumber, "\xff\xff\xff\xff\xff\xff\xff\x0f", api.OK},
		{api.MaxNumber + 1, "", api.ErrRange},
		{1<<63 - 1, "", api.ErrRange},
		{-1, "", api.ErrRange},
		{-1 << 63, "", api.ErrRange},
	} {
		got, e := wire.Number(c.n)
		if got != c.want || e != c.e {
			t.Errorf("Number(%d) = %q %d", c.n, got, e)
		}
		if e != api.OK {
			continue
		}
		for _, behind := range []string{"", "\x00", "\xff", "text"} {
			if n, size, e := wire.ReadNumber(got + behind); n != c.n || size != len(got) || e != api.OK {
				t.Errorf("ReadNumber(%q) = %d %d %d", got+behind, n, size, e)
			}
		}
	}
}

func TestB1ReadNumberErrors(t *testing.T) {
	eighties := func(n int) string { return strings.Repeat("\x80", n) }
	for _, c := range []struct {
		s string
		e api.Errno
	}{
		{"", api.ErrForm},
		{"\x80", api.ErrForm},
		{"\x80\x00", api.ErrForm},
		{"\xff\x00", api.ErrForm},
		{"\x81\x80\x00text", api.ErrForm},
		{eighties(7) + "\x00", api.ErrForm},
		{eighties(8), api.ErrForm}, // it ends too early, with no more than 8 bytes
		{strings.Repeat("\xff", 8), api.ErrForm},
		{eighties(7) + "\x10", api.ErrRange},
		{strings.Repeat("\xff", 7) + "\x10", api.ErrRange},
		{strings.Repeat("\xff", 7) + "\x7f", api.ErrRange},
		{eighties(9), api.ErrRange}, // it ends too early, with more than 8 bytes
		{eighties(1000), api.ErrRange},
		{eighties(8) + "\x01", api.ErrRange},
		{eighties(1000) + "\x01text", api.ErrRange},
		{eighties(8) + "\x00", api.ErrForm}, // both apply: ErrForm is named first
		{eighties(1000) + "\x00", api.ErrForm},
	} {
		if n, size, e := wire.ReadNumber(c.s); n != 0 || size != 0 || e != c.e {
			t.Errorf("ReadNumber(%q) = %d %d %d, want %d", c.s, n, size, e, c.e)
		}
	}
}

// Each text of two bytes: what is read is what is packed, and nothing else.
func TestB1B6ReadNumberOfAllShortTexts(t *testing.T) {
	for k := range 1 << 16 {
		s := string([]byte{byte(k), byte(k >> 8)})
		n, size, e := wire.ReadNumber(s)
		first, second := k&255, k>>8
		switch {
		case first < 128:
			if n != first || size != 1 || e != api.OK {
				t.Errorf("ReadNumber(%q) = %d %d %d", s, n, size, e)
			}
		case second == 0 || second >= 128:
			if n != 0 || size != 0 || e != api.ErrForm {
				t.Errorf("ReadNumber(%q) = %d %d %d", s, n, size, e)
			}
		default:
			if n != first-128+128*second || size != 2 || e != api.OK {
				t.Errorf("ReadNumber(%q) = %d %d %d", s, n, size, e)
			}
		}
	}
}

func TestB2Texts(t *testing.T) {
	for _, c := range []struct {
		l    []string
		want string
		e    api.Errno
	}{
		{nil, "\x00", api.OK},
		{[]string{}, "\x00", api.OK},
		{[]string{""}, "\x01\x00", api.OK},
		{[]string{"a", "bc", "a", "\x00\xff"}, "\x04\x01a\x02bc\x01a\x02\x00\xff", api.OK},
		{[]string{strings.Repeat("y", 200)}, "\x01\xc8\x01" + strings.Repeat("y", 200), api.OK},
		{[]string{long[1:]}, "\x01\xa0\x8d\x06" + long[1:], api.OK},
		{make([]string, api.MaxTexts), "\xd0\x0f" + strings.Repeat("\x00", api.MaxTexts), api.OK},
		{make([]string, api.MaxTexts+1), "", api.ErrMany},
		{[]string{long}, "", api.ErrMany},
		{[]string{"a", long, "b"}, "", api.ErrMany},
	} {
		if got, e := wire.Texts(c.l); got != c.want || e != c.e {
			t.Errorf("Texts of %d = %.80q %d", len(c.l), got, e)
		}
	}
}

func node(name string, kind int, d string) api.Node {
	return api.Node{Name: name, Kind: kind, Digest: d}
}

func manyNodes(n int) []api.Node {
	var l []api.Node
	for i := range n {
		l = append(l, node(fmt.Sprintf("n%03d", i), 1+i%3, digest.Sum(fmt.Sprint(i))))
	}
	return l
}

func TestB3Nodes(t *testing.T) {
	l := []api.Node{node("-", 3, dB), node("a", 1, dA), node("a.", 2, dA)}
	want := "\x03\x01-\x03\x40" + dB + "\x01a\x01\x40" + dA + "\x02a.\x02\x40" + dA
	if got, e := wire.Nodes(l); got != want || e != api.OK {
		t.Errorf("Nodes = %q %d", got, e)
	}
	if got, e := wire.Nodes(nil); got != "\x00" || e != api.OK {
		t.Errorf("Nodes of none = %q %d", got, e)
	}
	if got, e := wire.Nodes(manyNodes(api.MaxFiles)); got == "" || e != api.OK {
		t.Errorf("Nodes of as many as may be = %q %d", got, e)
	}
}

func TestB3ErrorsOfNodes(t *testing.T) {
	good, none := node("b", 1, dA), "no digest"
	for k, c := range []struct {
		l []api.Node
		e api.Errno
	}{
		{manyNodes(api.MaxFiles + 1), api.ErrMany},
		{make([]api.Node, api.MaxFiles+1), api.ErrMany},
		{[]api.Node{node("", 1, dA)}, api.ErrForm},
		{[]api.Node{node("..", 1, dA)}, api.ErrForm},
		{[]api.Node{node("a/b", 1, dA)}, api.ErrForm},
		{[]api.Node{node(strings.Repeat("n", api.MaxName+1), 1, dA)}, api.ErrForm},
		{[]api.Node{node("a", 1, "")}, api.ErrForm},
		{[]api.Node{node("a", 1, strings.ToUpper(dA))}, api.ErrForm},
		{[]api.Node{node("a", 0, none)}, api.ErrForm},
		{[]api.Node{node("A", 4, dA)}, api.ErrForm},
		{[]api.Node{node("a", 0, dA)}, api.ErrKind},
		{[]api.Node{node("a", 4, dA)}, api.ErrKind},
		{[]api.Node{node("a", -1, dA)}, api.ErrKind},
		{[]api.Node{node("a", 1<<63-1, dA)}, api.ErrKind},
		{[]api.Node{node("a", 0, dA), node("", 1, dA)}, api.ErrKind}, // node by node
		{[]api.Node{node("", 1, dA), node("a", 0, dA)}, api.ErrForm},
		{[]api.Node{good, good}, api.ErrTwice},
		{[]api.Node{good, node("b", 3, dB)}, api.ErrTwice},
		{[]api.Node{good, node("a", 1, dA)}, api.ErrTwice},
		{[]api.Node{node("a", 1, dA), node("b", 1, dA), node("a", 1, dA)}, api.ErrTwice},
		{[]api.Node{node("b.c", 1, dA), node("b", 1, dA)}, api.ErrTwice},
		{[]api.Node{good, good, node("c", 1, none)}, api.ErrForm}, // each is looked at ahead of how they are ordered
		{[]api.Node{good, good, node("c", 9, dA)}, api.ErrKind},
	} {
		if got, e := wire.Nodes(c.l); got != "" || e != c.e {
			t.Errorf("Nodes of list %d = %q %d, want %d", k, got, e, c.e)
		}
	}
}

func manyPaths(n int) []string {
	var l []string
	for i := range n {
		l = append(l, fmt.Sprintf("dir/p%03d", i))
	}
	return l
}

func TestB4Action(t *testing.T) {
	a := api.Action{Command: []string{"do", "", "do"}, Input: dA, Outputs: []string{"o", "p/q"}, Fuel: 300}
	want := "\x03\x02do\x00\x02do\x40" + dA + "\x02\x01o\x03p/q\xac\x02"
	if got, e := wire.Action(a); got != want || e != api.OK {
		t.Errorf("Action = %q %d", got, e)
	}
	if got, e := wire.Action(api.Action{Input: dB}); got != "\x00\x40"+dB+"\x00\x00" || e != api.OK {
		t.Errorf("Action of little = %q %d", got, e)
	}
	most := api.Action{Command: slices.Repeat([]string{long[1:]}, api.MaxFiles), Input: dA, Outputs: manyPaths(api.MaxFiles), Fuel: api.MaxNumber}
	if got, e := wire.Action(most); got == "" || e != api.OK {
		t.Errorf("Action of as much as may be: %d", e)
	}
}

func TestB4ErrorsOfAction(t *testing.T) {
	fall := []string{"b", "a"}
	for k, c := range []struct {
		a api.Action
		e api.Errno
	}{
		{api.Action{}, api.ErrForm},
		{api.Action{Command: make([]string, api.MaxFiles+1), Input: dA}, api.ErrMany},
		{api.Action{Outputs: manyPaths(api.MaxFiles + 1), Input: dA}, api.ErrMany},
		{api.Action{Command: []string{"a", long}, Input: dA}, api.ErrMany},
		{api.Action{Command: []string{long}, Outputs: []string{"/"}, Fuel: -1}, api.ErrMany},
		{api.Action{Outputs: make([]string, api.MaxFiles+1), Fuel: -1}, api.ErrMany},
		{api.Action{Input: dA[1:]}, api.ErrForm},
		{api.Action{Input: strings.ToUpper(dA)}, api.ErrForm},
		{api.Action{Input: dA, Outputs: []string{""}}, api.ErrForm},
		{api.Action{Input: dA, Outputs: []string{"a", "b/"}}, api.ErrForm},
		{api.Action{Input: dA, Outputs: []string{long}}, api.ErrForm}, // only Command's texts are too long
		{api.Action{Input: "", Outputs: fall, Fuel: -1}, api.ErrForm},
		{api.Action{Input: dA, Outputs: []string{"b", "a", "/"}, Fuel: -1}, api.ErrForm},
		{api.Action{Input: dA, Outputs: fall}, api.ErrTwice},
		{api.Action{Input: dA, Outputs: []string{"a", "a"}}, api.ErrTwice},
		{api.Action{Input: dA, Outputs: []string{"a/b", "a"}}, api.ErrTwice},
		{api.Action{Input: dA, Outputs: fall, Fuel: -1}, api.ErrTwice},
		{api.Action{Input: dA, Fuel: -1}, api.ErrRange},
		{api.Action{Input: dA, Fuel: api.MaxNumber + 1}, api.ErrRange},
	} {
		if got, e := wire.Action(c.a); got != "" || e != c.e {
			t.Errorf("Action %d = %q %d, want %d", k, got, e, c.e)
		}
	}
}

func TestB4Result(t *testing.T) {
	for k, c := range []struct {
		r    api.Result
		want string
		e    api.Errno
	}{
		{api.Result{Output: dA}, "\x00\x40" + dA + "\x00", api.OK},
		{api.Result{Code: 5, Output: dB, Spent: 1000}, "\x05\x40" + dB + "\xe8\x07", api.OK},
		{api.Result{Code: api.MaxNumber, Output: dB, Spent: 128}, "\xff\xff\xff\xff\xff\xff\xff\x0f\x40" + dB + "\x80\x01", api.OK},
		{api.Result{}, "", api.ErrForm},
		{api.Result{Output: dA + "0"}, "", api.ErrForm},
		{api.Result{Code: -1, Output: dA}, "", api.ErrRange},
		{api.Result{Code: api.MaxNumber + 1, Output: dA}, "", api.ErrRange},
		{api.Result{Spent: -1, Output: dA}, "", api.ErrRange},
		{api.Result{Spent: api.MaxNumber + 1, Output: dA}, "", api.ErrRange},
		{api.Result{Code: -1}, "", api.ErrRange}, // ahead of ErrForm
		{api.Result{Spent: -1}, "", api.ErrRange},
	} {
		if got, e := wire.Result(c.r); got != c.want || e != c.e {
			t.Errorf("Result %d = %q %d, want %d", k, got, e, c.e)
		}
	}
}

func TestP2WhatIsHandedInIsOnlyRead(t *testing.T) {
	texts := []string{"c", "b", "spare", "room"}
	nodes := append(manyNodes(3), node("spare", 9, "room"))
	command, outputs := slices.Clone(texts), append(manyPaths(3), "spare")
	wire.Texts(texts[:2])
	wire.Nodes(nodes[:3])
	wire.Action(api.Action{Command: command[:2], Input: dA, Outputs: outputs[:3]})
	if !slices.Equal(texts, []string{"c", "b", "spare", "room"}) || !slices.Equal(command, texts) {
		t.Errorf("changed: %q %q", texts, command)
	}
	if !slices.Equal(nodes, append(manyNodes(3), node("spare", 9, "room"))) || !slices.Equal(outputs, append(manyPaths(3), "spare")) {
		t.Errorf("changed: %v %q", nodes, outputs)
	}
}

func TestP2P3AnswersAreTheCallersAndTheSame(t *testing.T) {
	a := api.Action{Command: []string{"x", "y"}, Input: dA, Outputs: []string{"o", "p"}, Fuel: 1}
	s, _ := wire.Action(a)
	first, _ := wire.ReadAction(s)
	command := first.Command[:cap(first.Command)]
	for i := range command {
		command[i] = "changed"
	}
	if !slices.Equal(first.Outputs, a.Outputs) {
		t.Errorf("two lists share memory: %q", first.Outputs)
	}
	first.Outputs[0] = "changed"
	if second, e := wire.ReadAction(s); !reflect.DeepEqual(second, a) || e != api.OK {
		t.Errorf("another answer: %v %d", second, e)
	}
	if again, _ := wire.Action(a); again != s {
		t.Errorf("another packing: %q", again)
	}
}
