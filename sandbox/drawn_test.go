package sandbox_test

import (
	"fmt"
	"slices"
	"strings"
	"testing"

	"foundry/api"
	"foundry/sandbox"
)

// draw numbers that are the same each time.
type draw uint64

func (d *draw) below(n int) int {
	*d = *d*6364136223846793005 + 1442695040888963407
	return int(uint64(*d) >> 33 % uint64(n))
}

func (d *draw) of(l ...string) string { return l[d.below(len(l))] }

func (d *draw) register() string { return d.of("a", "b", "h") }

func (d *draw) path() string {
	return d.of("a", "a-b", "a/x", "a/y", "a/y/z", "ab", "b", "b/c", "long", "o", "o/p", "o/q", "x", "y")
}

func (d *draw) text() string {
	return d.of("", " ", "x", "y", "1", "two words", "0123456789abcdef", strings.Repeat("long ", 30), "\xff\x00\n")
}

// line that is right in a command of so many lines.
func (d *draw) line(lines int) string {
	r, s, at := d.register(), d.register(), fmt.Sprint(d.below(lines+1))
	switch d.below(16) {
	case 0, 1:
		return "set " + r + " " + d.text()
	case 2, 3:
		return "read " + r + " " + d.of("a/x", "b", "long", "long", d.path())
	case 4:
		return "list " + r + " " + d.of(".", "a", d.path())
	case 5, 6:
		return "join " + r + " " + s
	case 7:
		return fmt.Sprintf("cut %s %d %d", r, d.below(20), d.below(60))
	case 8:
		return "size " + r + " " + s
	case 9:
		return "sum " + r
	case 10, 11, 12:
		return d.of("make ", "run ") + d.path() + " " + r
	case 13:
		return "same " + r + " " + s + " " + at
	case 14:
		return "less " + r + " " + s + " " + at
	}
	return d.of("goto "+at, fmt.Sprintf("exit %d", d.below(100)), "less "+r+" "+s+" "+at)
}

// spoilt line: one byte is gone, or there are others.
func (d *draw) spoilt(s string) string {
	i := d.below(len(s))
	return s[:i] + d.of("", " ", "0", "a", "/", ".", "x", "9", "\n") + s[i+d.below(2):]
}

func (d *draw) command() []string {
	n := d.below(14)
	var l []string
	for range n {
		l = append(l, d.line(n))
	}
	return l
}

// drawnFiles: those that may be read, one of which is long.
func drawnFiles(d *draw) []api.File {
	var l []api.File
	for _, f := range append(some(), file("long", longest[:api.MaxText/2+d.below(3)])) {
		if d.below(6) > 0 {
			l = append(l, f)
		}
	}
	return l
}

func TestJ1DrawnAgainstModel(t *testing.T) {
	d := draw(1)
	good := 0
	for range 10000 {
		command := d.command()
		if len(command) > 0 && d.below(2) == 0 {
			i := d.below(len(command))
			command[i] = d.spoilt(command[i])
		}
		at, want := checkModel(command)
		if n, e := sandbox.Check(command); n != at || e != want {
			t.Fatalf("Check(%q) = %d %d, must be %d %d", command, n, e, at, want)
		}
		if want == api.OK {
			good++
		}
	}
	if good < 3000 || good > 9000 {
		t.Errorf("%d of 10000 are right: that is no test", good)
	}
}

func TestJ2J4DrawnAgainstModel(t *testing.T) {
	d := draw(2)
	ends := map[int]int{}
	for range 10000 {
		files, command := drawnFiles(&d), d.command()
		fuel := []int{d.below(10), d.below(40), d.below(8000), 20000}[d.below(4)]
		got, code, spent, e := sandbox.Run(files, command, fuel)
		want := runModel(files, command, fuel)
		if e != api.OK || !same(got, want.made) || code != want.code || spent != want.spent {
			t.Fatalf("Run(%.300v, %q, %d) = %.300v %d %d %d, must be %.300v %d %d", files, command, fuel, got, code, spent, e, want.made, want.code, want.spent)
		}
		ends[code]++
		moreFuel(t, files, command, ran{got, code, spent}, &d)
		otherFiles(t, files, command, ran{got, code, spent}, fuel)
	}
	for _, code := range []int{0, api.CodeNone, api.CodeLong, api.CodePath, api.CodeFuel} {
		if ends[code] < 30 {
			t.Errorf("it ends %d times with %d: that is no test", ends[code], code)
		}
	}
}

// moreFuel: what ends without CodeFuel ends so with more, or with just what it burnt, and not with less.
func moreFuel(t *testing.T, files []api.File, command []string, was ran, d *draw) {
	t.Helper()
	if was.code == api.CodeFuel {
		return
	}
	for _, fuel := range []int{was.spent, was.spent + d.below(1000), api.MaxFuel} {
		got, code, spent, e := sandbox.Run(files, command, fuel)
		if e != api.OK || !same(got, was.made) || code != was.code || spent != was.spent {
			t.Fatalf("Run(%q, %d) = %.300v %d %d %d, and was %.300v %d %d", command, fuel, got, code, spent, e, was.made, was.code, was.spent)
		}
	}
	if was.spent > 0 {
		if _, code, spent, _ := sandbox.Run(files, command, was.spent-1); code != api.CodeFuel || spent != was.spent-1 {
			t.Fatalf("Run(%q, %d) ends with %d, %d are burnt", command, was.spent-1, code, spent)
		}
	}
}

// otherFiles: those that are neither read nor listed do not matter.
func otherFiles(t *testing.T, files []api.File, command []string, was ran, fuel int) {
	t.Helper()
	var asked []api.File
	for _, f := range files {
		if slices.ContainsFunc(command, func(s string) bool {
			word, rest, _ := strings.Cut(s, " ")
			return word == "list" || word == "read" && strings.HasSuffix(rest, " "+f.Path)
		}) {
			asked = append(asked, f)
		}
	}
	got, code, spent, e := sandbox.Run(asked, command, fuel)
	if e != api.OK || !same(got, was.made) || code != was.code || spent != was.spent {
		t.Fatalf("Run(%q, %d) with fewer files = %.300v %d %d %d, and was %.300v %d %d", command, fuel, got, code, spent, e, was.made, was.code, was.spent)
	}
}
