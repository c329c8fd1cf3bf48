package sandbox_test

import (
	"crypto/sha256"
	"fmt"
	"reflect"
	"slices"
	"strings"
	"testing"

	"foundry/api"
	"foundry/sandbox"
)

var (
	longest = strings.Repeat("x", api.MaxText)
	hundred = strings.Repeat("abcdefghi/", 9) + "abcdefghij"
)

// plenty of fuel.
const plenty = api.MaxFuel

func file(path, text string) api.File { return api.File{Path: path, Text: text} }

func runFile(path, text string) api.File { return api.File{Path: path, Text: text, Run: true} }

// some files of a tree.
func some() []api.File {
	return []api.File{file("a-b", "2"), file("a/x", "1"), file("a/y/z", ""), file("ab", "3"), runFile("b", "two\nlines")}
}

// lines of a command, one on each line of a text.
func lines(s string) []string {
	if s == "" {
		return nil
	}
	return strings.Split(s, "\n")
}

// same tells whether two lists are, an empty one being nil or not.
func same[T any](a, b []T) bool {
	return len(a) == 0 && len(b) == 0 || reflect.DeepEqual(a, b)
}

// runs tells what comes of a command on some files.
func runs(t *testing.T, command []string, fuel int, code, spent int, made ...api.File) {
	t.Helper()
	runsOn(t, some(), command, fuel, code, spent, made...)
}

func runsOn(t *testing.T, files []api.File, command []string, fuel int, code, spent int, made ...api.File) {
	t.Helper()
	l, c, n, e := sandbox.Run(files, command, fuel)
	if !same(l, made) || c != code || n != spent || e != api.OK {
		t.Errorf("Run(%.200q, %d) = %.200v, code %d, spent %d, error %d; must be %.200v, code %d, spent %d", command, fuel, l, c, n, e, made, code, spent)
	}
}

// wrong tells that a command is refused by Check, with the number of a line, and by Run.
func wrong(t *testing.T, command []string, at int, want api.Errno) {
	t.Helper()
	if n, e := sandbox.Check(command); n != at || e != want {
		t.Errorf("Check(%.200q) = %d %d, must be %d %d", command, n, e, at, want)
	}
	for _, fuel := range []int{0, plenty, -1, plenty + 1} {
		if l, c, n, e := sandbox.Run(some(), command, fuel); len(l) > 0 || c != 0 || n != 0 || e != want {
			t.Errorf("Run(%.200q, %d) = %.200v %d %d %d, must be nothing and %d", command, fuel, l, c, n, e, want)
		}
	}
}

func TestJ1GoodLines(t *testing.T) {
	for _, s := range []string{
		"set a ", "set h x", "set a  ", "set a a b  c ", "set b \x00\xff\t", "set c set d x",
		"read a b", "read h a/b.c/_-", "read a ...", "read a " + hundred,
		"list a .", "list b b", "list c a/b", "list a ...", "list a " + hundred,
		"join a a", "join a h", "cut a 0 0", "cut a 999999 999999", "cut h 10 9", "size a a", "size a h", "sum a", "sum h",
		"make a a", "make a/b h", "make " + hundred + " a", "run a a", "run x/y b",
		"same a a 0", "same a b 1", "less a h 1", "goto 0", "goto 1", "exit 0", "exit 9", "exit 10", "exit 99",
	} {
		if n, e := sandbox.Check([]string{s}); n != 0 || e != api.OK {
			t.Errorf("Check of %q = %d %d, must be 0 0", s, n, e)
		}
	}
	for _, command := range [][]string{nil, {}, slices.Repeat([]string{"goto 60"}, api.MaxFiles), {"set a " + longest[6:]}} {
		if n, e := sandbox.Check(command); n != 0 || e != api.OK {
			t.Errorf("Check of %.100q = %d %d, must be 0 0", command, n, e)
		}
	}
}

func TestJ1WrongLines(t *testing.T) {
	for _, s := range []string{
		"", " ", "none", "none a", "Set a x", "sets a x", "set", "set ", "set a", "set i x", "set A x", "set ab x", "set  x", "set  a x", " set a x", "set\ta x", "\x00",
		"read", "read a", "read a ", "read a /", "read a b/", "read a ../b", "read a .", "read a ..", "read a B", "read a b c", "read a  b", "read i b", "read b", "read a b ", "read a b\n", "read a " + hundred + "x", "read a xxxxxxxxxxxxxxxxxxxxx",
		"list a", "list a ", "list a ..", "list a ./", "list a ./a", "list a /", "list a . ", "list a . b", "list i .", "list .", "list a b/", "list a " + hundred + "x",
		"join", "join a", "join a ", "join a b c", "join a i", "join i a", "join a  b", "join a b ", "join ab", "join a bc",
		"cut", "cut a", "cut a 1", "cut a 1 ", "cut a 1 2 3", "cut a  1 2", "cut a 1  2", "cut a 1 2 ", "cut i 1 2", "cut a 01 2", "cut a 1 02", "cut a 00 1", "cut a -1 2", "cut a +1 2", "cut a 1 1000000", "cut a 1000000 1", "cut a 0000000 1", "cut a x 1", "cut a : 1", "cut a 1 /", "cut a 1: 1", "cut a 1/ 1", "cut a 1 1x", "cut a 1 \xff", "cut a 1 \u0661", "cut a 1 99999999999999999999999",
		"size", "size a", "size a i", "size i a", "size a b c", "size a b ", "size a 1",
		"sum", "sum ", "sum i", "sum a ", " sum a", "sum a b", "sum aa",
		"make", "make a", "make a ", "make a i", "make A a", "make . a", "make a/ a", "make  a a", "make a a ", "make a b c", "make " + hundred + "x a",
		"run", "run a", "run a i", "run A a", "run / a", "run a a ", "run a b c",
		"same", "same a b", "same a b ", "same a b 2", "same a i 0", "same i a 0", "same a b 01", "same a b -1", "same a b 0 ", "same a b 0 0", "same 0 a b",
		"less", "less a b", "less a b 2", "less a i 0", "less i a 0", "less a b 00", "less a b x",
		"goto", "goto ", "goto 2", "goto 01", "goto -1", "goto a", "goto :", "goto /", "goto 0 ", "goto 0 0", "goto  0", "goto 100000000000000000000",
		"exit", "exit ", "exit 100", "exit 101", "exit 01", "exit 00", "exit -1", "exit a", "exit 0 ", "exit 0 0", "exit 999999", "exit 1000000",
	} {
		wrong(t, []string{s}, 0, api.ErrForm)
		if n, e := sandbox.Check([]string{"sum a", "exit 0", s, "none"}); s != "goto 2" && s != "same a b 2" && s != "less a b 2" && (n != 2 || e != api.ErrForm) {
			t.Errorf("Check with %q = %d %d, must be 2 1", s, n, e)
		}
	}
	wrong(t, []string{"goto 3", "sum a", "goto 4"}, 2, api.ErrForm)
	wrong(t, append(slices.Repeat([]string{"goto 60"}, api.MaxFiles-1), "goto 61"), api.MaxFiles-1, api.ErrForm)
}

func TestJ1Many(t *testing.T) {
	wrong(t, slices.Repeat([]string{"sum a"}, api.MaxFiles+1), 0, api.ErrMany)
	wrong(t, make([]string, api.MaxFiles+1), 0, api.ErrMany)
	wrong(t, []string{"sum a", "set a " + longest[5:]}, 0, api.ErrMany)
	wrong(t, []string{"none", longest + "x"}, 0, api.ErrMany)
	wrong(t, []string{"sum a", longest}, 1, api.ErrForm)
	wrong(t, []string{"sum a", strings.Repeat(" ", api.MaxText)}, 1, api.ErrForm)
}

func TestJ2Set(t *testing.T) {
	runs(t, lines("set a hi\nmake out a"), plenty, 0, 2, file("out", "hi"))
	runs(t, lines("set a  a  b \nmake out a\nset a \nmake none a"), plenty, 0, 4, file("none", ""), file("out", " a  b "))
	runs(t, []string{"set h \x00\xff\n", "make out h"}, plenty, 0, 2, file("out", "\x00\xff\n"))
	var all []string
	var made []api.File
	for _, r := range "abcdefgh" {
		all = append(all, fmt.Sprintf("set %c %c", r, r))
	}
	for _, r := range "abcdefgh" {
		all = append(all, fmt.Sprintf("make %c %c", r, r))
		made = append(made, file(string(r), string(r)))
	}
	runs(t, all, plenty, 0, 16, made...)
}

func TestJ2Read(t *testing.T) {
	runs(t, lines("read a b\nread b a/x\nread c a/y/z\nmake p a\nmake q b\nmake r c"), plenty, 0, 6, file("p", "two\nlines"), file("q", "1"), file("r", ""))
	for _, path := range []string{"none", "a", "a/y", "a/x/y", "b/c", "bb", "a/xx"} {
		runs(t, lines("set a old\nmake out a\nread a "+path+"\nexit 1"), plenty, api.CodeNone, 3, file("out", "old"))
	}
	// What is made is no file that was given.
	runs(t, lines("make new a\nread a new"), plenty, api.CodeNone, 2, file("new", ""))
	runs(t, lines("set a made\nmake b a\nread a b\nmake c a"), plenty, 0, 4, file("b", "made"), file("c", "two\nlines"))
	runsOn(t, []api.File{file("long", longest)}, lines("read a long"), plenty, 0, 1+api.MaxText/16)
}

func TestJ2List(t *testing.T) {
	for dir, want := range map[string]string{
		".": "a-b\na/x\na/y/z\nab\nb\n", "a": "a/x\na/y/z\n", "a/y": "a/y/z\n", "b": "", "none": "", "a/x": "", "a-b": "",
	} {
		runs(t, []string{"set a old", "list a " + dir, "make out a"}, plenty, 0, 3+2*(len(want)/16), file("out", want))
	}
	runsOn(t, nil, lines("list a .\nlist b a\nmake x a\nmake y b"), plenty, 0, 4, file("x", ""), file("y", ""))
	// What is made is not listed.
	runs(t, lines("make a/new a\nlist a a\nmake out a"), plenty, 0, 3, file("a/new", ""), file("out", "a/x\na/y/z\n"))
}

func TestJ2JoinCutSizeSum(t *testing.T) {
	runs(t, lines("set a x\nset b y\njoin a b\njoin b a\njoin b b\nmake p a\nmake q b"), plenty, 0, 7, file("p", "xy"), file("q", "yxyyxy"))
	for cut, want := range map[string]string{
		"0 0": "", "0 1": "0", "2 5": "234", "5 2": "", "5 5": "", "0 10": "0123456789", "9 10": "9", "10 11": "", "3 999999": "3456789", "999999 999999": "", "999999 0": "", "11 3": "",
	} {
		runs(t, []string{"set a 0123456789", "cut a " + cut, "make out a"}, plenty, 0, 3, file("out", want))
	}
	runs(t, []string{"set a \xc3\xa9", "cut a 1 2", "make out a"}, plenty, 0, 3, file("out", "\xa9"))
	runs(t, lines("cut a 0 5\nsize b a\nset a \xff\x00\nsize a a\nset c 0123456789\nsize c c\nmake x a\nmake y b\nmake z c"), plenty, 0, 9, file("x", "2"), file("y", "0"), file("z", "10"))
	for _, s := range []string{"", "abc", longest[:1000]} {
		sum := fmt.Sprintf("%x", sha256.Sum256([]byte(s)))
		twice := fmt.Sprintf("%x", sha256.Sum256([]byte(sum)))
		runs(t, []string{"set a " + s, "sum a", "make x a", "sum a", "make y a"}, plenty, 0, 1+len(s)/16+20, file("x", sum), file("y", twice))
	}
}

func TestJ2Make(t *testing.T) {
	runs(t, lines("set a 1\nmake o/x a\nrun o/y a\nset a 2\nmake o/x a"), plenty, 0, 5, file("o/x", "2"), runFile("o/y", "1"))
	// Whether it may be run is made anew, too.
	runs(t, lines("make x a\nrun x a\nrun y a\nmake y a"), plenty, 0, 4, runFile("x", ""), file("y", ""))
	// Of what is given nothing is in the way.
	runs(t, lines("make a a\nmake b/c a\nrun ab a"), plenty, 0, 3, file("a", ""), runFile("ab", ""), file("b/c", ""))
	// They rise byte by byte.
	runs(t, lines("make b a\nmake a/b a\nmake a-b a\nmake aa a\nmake 0 a"), plenty, 0, 5, file("0", ""), file("a-b", ""), file("a/b", ""), file("aa", ""), file("b", ""))
	for _, c := range []struct{ first, second string }{{"o", "o/x"}, {"o/x", "o"}, {"o", "o/x/y"}, {"o/x/y", "o"}, {"o/x/y", "o/x"}, {"o/x", "o/x/y"}} {
		for _, word := range []string{"make", "run"} {
			command := []string{"make " + c.first + " a", "set a x", word + " " + c.second + " a", "exit 1"}
			runs(t, command, plenty, api.CodePath, 3, file(c.first, ""))
		}
	}
	for _, c := range []struct{ first, second string }{{"o", "o-x"}, {"o", "ox/o"}, {"o/x", "o/y"}, {"o/x", "o/x.y"}, {"o/x", "x/o"}} {
		runs(t, []string{"make " + c.first + " a", "make " + c.second + " a"}, plenty, 0, 2, file(c.first, ""), file(c.second, ""))
	}
}

// TestJ2MakeTheMost: one line cannot make more than one file, so the most that can be made is as many as there are lines, and none is too many.
func TestJ2MakeTheMost(t *testing.T) {
	var command []string
	var made []api.File
	for i := range api.MaxFiles {
		path := fmt.Sprintf("f%02d", i)
		command = append(command, "make "+path+" a")
		made = append(made, file(path, ""))
	}
	runs(t, command, plenty, 0, api.MaxFiles, made...)
	runs(t, command, 7, api.CodeFuel, 7, made[:7]...)
}

func TestJ2Goes(t *testing.T) {
	for _, c := range []struct {
		a, b       string
		same, less bool
	}{
		{"", "", true, false},
		{"x", "x", true, false},
		{"x", "y", false, true},
		{"y", "x", false, false},
		{"", "x", false, true},
		{"x", "", false, false},
		{"x", "xx", false, true},
		{"xx", "x", false, false},
		{"10", "9", false, true},
		{"\x7f", "\xff", false, true},
		{"\xff", "a", false, false},
		{"B", "a", false, true},
	} {
		for word, holds := range map[string]bool{"same": c.same, "less": c.less} {
			code := 1
			if holds {
				code = 2
			}
			runs(t, []string{"set a " + c.a, "set b " + c.b, word + " a b 4", "exit 1", "exit 2"}, plenty, code, 4)
		}
	}
	runs(t, lines("same a a 1"), plenty, 0, 1)
	runs(t, lines("less a a 0"), plenty, 0, 1)
	runs(t, lines("goto 2\nexit 1\ngoto 4\nexit 2\nmake out a"), plenty, 0, 3, file("out", ""))
	runs(t, lines("goto 1"), plenty, 0, 1)
	runs(t, lines("goto 3\nexit 1\nexit 2"), plenty, 0, 1)
	// A loop: so often till the text has 5 bytes.
	runs(t, lines("set b x\nset d 5\njoin a b\nsize c a\nsame c d 6\ngoto 2\nmake out a"), plenty, 0, 2+5*3+4+1, file("out", "xxxxx"))
	runs(t, lines("goto 0"), plenty, api.CodeFuel, plenty)
	runs(t, lines("same a b 0"), 999, api.CodeFuel, 999)
}

func TestJ2Exit(t *testing.T) {
	runs(t, nil, plenty, 0, 0)
	runs(t, nil, 0, 0, 0)
	for _, code := range []int{0, 1, 9, 10, 99} {
		runs(t, []string{"make out a", fmt.Sprintf("exit %d", code), "make more a"}, plenty, code, 2, file("out", ""))
		runs(t, []string{"make out a", fmt.Sprintf("exit %d", code), "make more a"}, 2, code, 2, file("out", ""))
		runs(t, []string{"make out a", fmt.Sprintf("exit %d", code)}, 1, api.CodeFuel, 1, file("out", ""))
	}
	runs(t, lines("make out a"), 1, 0, 1, file("out", ""))
}

// TestJ2Burns: what one line burns behind others, with just as much fuel, and with one less: then it does nothing, and all is burnt.
func TestJ2Burns(t *testing.T) {
	files := []api.File{file("d/15", longest[:15]), file("d/16", longest[:16]), file("d/long", longest)}
	for _, c := range []struct {
		ahead string
		spent int
		line  string
		need  int
	}{
		{"", 0, "set a ", 1},
		{"", 0, "set a " + longest[:15], 1},
		{"", 0, "set a " + longest[:16], 2},
		{"", 0, "set a " + longest[:31], 2},
		{"", 0, "set a " + longest[:32], 3},
		{"", 0, "set a " + longest[6:], 1 + (api.MaxText-6)/16},
		{"", 0, "read a d/15", 1},
		{"", 0, "read a d/16", 2},
		{"", 0, "read a d/long", 6251},
		{"", 0, "list a .", 2},
		{"", 0, "list a none", 1},
		{"set a 0123456789\nset b 01234", 2, "join a b", 1},
		{"set a 0123456789\nset b 012345", 2, "join a b", 2},
		{"read a d/long", 6251, "join a b", 6251},
		{"read a d/long", 6251, "cut a 0 16", 2},
		{"read a d/long", 6251, "cut a 0 15", 1},
		{"read a d/long", 6251, "cut a 1 0", 1},
		{"read a d/long", 6251, "size a a", 1},
		{"read a d/long", 6251, "size b a", 1},
		{"read a d/long", 6251, "sum a", 5},
		{"", 0, "sum a", 5},
		{"read a d/long", 6251, "make out a", 6251},
		{"read a d/long", 6251, "run out a", 6251},
		{"read a d/16", 2, "make out a", 2},
		{"read a d/15", 1, "make out a", 1},
		{"read a d/long", 6251, "same a a 0", 1},
		{"read a d/long", 6251, "less a b 0", 1},
		{"read a d/long", 6251, "exit 7", 1},
	} {
		command := append(lines(c.ahead), c.line, "goto "+fmt.Sprint(len(lines(c.ahead))+2))
		_, code, spent, e := sandbox.Run(files, command, c.spent+c.need)
		if e != api.OK || spent != c.spent+c.need || code != api.CodeFuel && code != 7 {
			t.Errorf("%.100q burns other than %d: code %d, spent %d, error %d", c.line, c.need, code, spent, e)
		}
		runsOn(t, files, command[:len(command)-1], c.spent+c.need-1, api.CodeFuel, c.spent+c.need-1)
	}
	// One less, and what was made stays as it was.
	runsOn(t, files, lines("set a old\nmake out a\nread a d/16\nrun out a"), 5, api.CodeFuel, 5, file("out", "old"))
	runsOn(t, files, lines("set a old\nmake out a\nread a d/16\nrun out a"), 6, 0, 6, runFile("out", longest[:16]))
}

func TestJ2Long(t *testing.T) {
	files := []api.File{file("half", longest[:api.MaxText/2]), file("long", longest), file("one", "1")}
	half := 1 + api.MaxText/2/16
	runsOn(t, files, lines("read a half\njoin a a"), plenty, 0, half+6251)
	command := lines("make out a\nread a long\nread b one\njoin a b\nexit 1")
	ahead := 1 + 6251 + 1
	runsOn(t, files, command, plenty, api.CodeLong, ahead+1, file("out", ""))
	// Before its fuel is asked for; but one is burnt.
	runsOn(t, files, command, ahead+1, api.CodeLong, ahead+1, file("out", ""))
	runsOn(t, files, command, ahead, api.CodeFuel, ahead, file("out", ""))
	runsOn(t, files, lines("read a long\njoin a a"), plenty, api.CodeLong, 6252)
}

// TestJ2CodesNeedOne: what ends with a code above 99 needs one, whatever it would have needed else.
func TestJ2CodesNeedOne(t *testing.T) {
	files := []api.File{file("long", longest)}
	path := lines("read a long\nmake o b\nmake o/x a")
	runsOn(t, files, path, 6253, api.CodePath, 6253, file("o", ""))
	runsOn(t, files, path, plenty, api.CodePath, 6253, file("o", ""))
	runsOn(t, files, path, 6252, api.CodeFuel, 6252, file("o", ""))
	runsOn(t, files, lines("read a none"), 1, api.CodeNone, 1)
	runsOn(t, files, lines("read a none"), 0, api.CodeFuel, 0)
}

func TestJ3Errors(t *testing.T) {
	many := make([]string, api.MaxFiles+1)
	bad := []struct {
		files []api.File
		want  api.Errno
	}{
		{make([]api.File, api.MaxFiles+1), api.ErrMany},
		{[]api.File{file("/", "")}, api.ErrForm},
		{[]api.File{file("a", longest+"x")}, api.ErrMany},
		{[]api.File{file("b", ""), file("a", "")}, api.ErrTwice},
		{[]api.File{file("a", ""), file("a/b", "")}, api.ErrTwice},
	}
	for _, c := range bad {
		for _, command := range [][]string{nil, many, {"none"}, {"exit 7"}} {
			for _, fuel := range []int{0, 10, -1, plenty + 1} {
				if l, code, spent, e := sandbox.Run(c.files, command, fuel); len(l) > 0 || code != 0 || spent != 0 || e != c.want {
					t.Errorf("Run(%.100v, %.100q, %d) = %v %d %d %d, must be %d", c.files, command, fuel, l, code, spent, e, c.want)
				}
			}
		}
	}
	for _, fuel := range []int{-1, plenty + 1, -1 << 63, 1<<63 - 1} {
		if l, code, spent, e := sandbox.Run(some(), lines("make out a\nexit 7"), fuel); len(l) > 0 || code != 0 || spent != 0 || e != api.ErrRange {
			t.Errorf("Run with the fuel %d = %v %d %d %d, must be ErrRange", fuel, l, code, spent, e)
		}
	}
	runs(t, lines("exit 7"), plenty, 7, 1)
}

func TestP2P3OnlyReadAndNew(t *testing.T) {
	newFiles := func() []api.File { return append(make([]api.File, 0, 16), some()...) }
	newCommand := func() []string {
		return append(make([]string, 0, 16), "read a b", "run x a", "list a .", "make y a", "make x a")
	}
	files, command := newFiles(), newCommand()
	first, code, spent, _ := sandbox.Run(files, command, plenty)
	sandbox.Check(command)
	if !reflect.DeepEqual(files[:16], newFiles()[:16]) || !reflect.DeepEqual(command[:16], newCommand()[:16]) {
		t.Errorf("what was handed in was changed: %v %q", files[:16], command[:16])
	}
	first[0].Text = "changed"
	again, code2, spent2, _ := sandbox.Run(files, command, plenty)
	if code != code2 || spent != spent2 || again[0].Text == "changed" || !reflect.DeepEqual(files[:16], newFiles()[:16]) {
		t.Errorf("then it was %v %d %d", again, code2, spent2)
	}
}
