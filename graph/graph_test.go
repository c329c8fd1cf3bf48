package graph_test

import (
	"fmt"
	"reflect"
	"slices"
	"strings"
	"testing"

	"foundry/api"
	"foundry/graph"
)

// allTell tells that every call but Check answers an error, and nothing beside it.
func allTell(t *testing.T, l []api.Target, name string, want api.Errno) {
	t.Helper()
	for call, ask := range map[string]func() ([]string, api.Errno){
		"Order":  func() ([]string, api.Errno) { return graph.Order(l) },
		"Circle": func() ([]string, api.Errno) { return graph.Circle(l) },
		"Cone":   func() ([]string, api.Errno) { return graph.Cone(l, name) },
		"Users":  func() ([]string, api.Errno) { return graph.Users(l, name) },
	} {
		if got, e := ask(); len(got) > 0 || e != want {
			t.Errorf("%s of %.200v = %q %d, must be none and %d", call, l, got, e, want)
		}
	}
	if n, e := graph.Depth(l, name); n != 0 || e != want {
		t.Errorf("Depth of %.200v = %d %d, must be 0 %d", l, n, e, want)
	}
}

func TestI1Names(t *testing.T) {
	long := strings.Repeat("x", api.MaxName)
	many := make([]api.Target, api.MaxFiles+1)
	for _, c := range []struct {
		l    []api.Target
		want api.Errno
	}{
		{many, api.ErrMany},
		{append(numbered(api.MaxFiles), api.Target{Name: "a"}), api.ErrMany},
		{append(numbered(api.MaxFiles), api.Target{Name: "a", Needs: []string{"none"}}), api.ErrMany},
		{append(numbered(api.MaxFiles), api.Target{Name: "t000"}), api.ErrMany},
		{many[:1], api.ErrForm},
		{many[:api.MaxFiles], api.ErrForm},
		{targets("A"), api.ErrForm},
		{targets("a; ."), api.ErrForm},
		{targets(".."), api.ErrForm},
		{targets("a/b"), api.ErrForm},
		{targets("a b"), api.ErrForm},
		{[]api.Target{{Name: "a\n"}}, api.ErrForm},
		{targets(long + "x"), api.ErrForm},
		{targets("a: none; a; A"), api.ErrForm},
		{targets("a: A; A"), api.ErrForm},
		{targets("a; a"), api.ErrTwice},
		{targets("a; b; a"), api.ErrTwice},
		{targets("a: none; b; b"), api.ErrTwice},
		{targets("a: a; a: a"), api.ErrTwice},
		{targets("a: none"), api.ErrNone},
		{targets("a: b A; b"), api.ErrNone},
		{[]api.Target{{Name: "a", Needs: []string{""}}}, api.ErrNone},
		{targets("a: a b; b: c"), api.ErrNone},
		{targets("a: b; b: a none"), api.ErrNone},
	} {
		for _, name := range []string{"a", "t000", "none", ""} {
			allTell(t, c.l, name, c.want)
		}
		if name, e := graph.Check(c.l, nil); name != "" || e != c.want {
			t.Errorf("Check(%.200v) = %q %d, must be none and %d", c.l, name, e, c.want)
		}
	}
	for _, name := range []string{"a", "0", "-", "_", "...", ".a", long} {
		if l, e := graph.Order(targets(name)); e != api.OK || !same(l, []string{name}) {
			t.Errorf("Order of %q = %q %d", name, l, e)
		}
	}
}

func TestI1Order(t *testing.T) {
	for _, c := range []struct{ l, want string }{
		{"", ""},
		{"a", "a"},
		{"a: b; b", "b a"},
		{"b; a", "a b"},
		{"b: c; a: c; c", "c a b"},
		{"c; b: c; a: b; z: a c; d", "c b a d z"},
		{"a: z; b; z", "b z a"},
		{"a: b c; b: c; c", "c b a"},
		{"a: b b c b; b: c c; c", "c b a"},
		{"a; ab; a-; a.b; a0; b", "a a- a.b a0 ab b"},
		{"t10; t9; t1", "t1 t10 t9"},
		{"m: y; a: z; z; y; n: m a", "y m z a n"},
		{"d: b c; b: a; c: a; a", "a b c d"},
	} {
		if got, e := graph.Order(targets(c.l)); e != api.OK || !same(got, words(c.want)) {
			t.Errorf("Order(%s) = %q %d, must be %q", c.l, got, e, c.want)
		}
	}
	l := numbered(api.MaxFiles)
	slices.Reverse(l)
	got, e := graph.Order(l)
	if e != api.OK || len(got) != api.MaxFiles || !slices.IsSorted(got) {
		t.Errorf("Order of the most that may be: %q %d", got, e)
	}
	// How targets are ordered does not matter.
	slices.Reverse(l)
	if again, _ := graph.Order(l); !same(again, got) {
		t.Errorf("Order hangs on how targets come: %q, %q", again, got)
	}
}

func TestI1ManyNeeds(t *testing.T) {
	needs := slices.Repeat([]string{"b", "c"}, 100000)
	l := []api.Target{{Name: "a", Needs: needs}, {Name: "b", Needs: slices.Repeat([]string{"c"}, 100000)}, {Name: "c"}}
	if got, e := graph.Order(l); e != api.OK || !same(got, words("c b a")) {
		t.Errorf("Order with a need many times: %q %d", got, e)
	}
	if n, e := graph.Depth(l, "a"); n != 2 || e != api.OK {
		t.Errorf("Depth with a need many times: %d %d", n, e)
	}
	if got, e := graph.Users(l, "c"); e != api.OK || !same(got, words("a b")) {
		t.Errorf("Users with a need many times: %q %d", got, e)
	}
	if got, e := graph.Circle(l); e != api.OK || len(got) > 0 {
		t.Errorf("Circle with a need many times: %q %d", got, e)
	}
	// Each needs all behind it: there are more ways through these than anybody could go.
	l = nil
	for i := api.MaxFiles - 1; i >= 0; i-- {
		u := api.Target{Name: fmt.Sprintf("t%02d", i)}
		for _, other := range l {
			u.Needs = append(u.Needs, other.Name)
		}
		l = append(l, u)
	}
	if n, e := graph.Depth(l, "t00"); n != api.MaxFiles-1 || e != api.OK {
		t.Errorf("Depth of all that need all behind them: %d %d", n, e)
	}
	if c, e := graph.Circle(l); len(c) > 0 || e != api.OK {
		t.Errorf("Circle of all that need all behind them: %q %d", c, e)
	}
}

func TestI1Circle(t *testing.T) {
	for _, s := range []string{"", "a", "a: b; b", "a: b c; b: d; c: d; d", "a: b b; b", "z: a; a; b: z a"} {
		if got, e := graph.Circle(targets(s)); e != api.OK || len(got) > 0 {
			t.Errorf("Circle(%s) = %q %d, must be none", s, got, e)
		}
		if name, e := graph.Check(targets(s), nil); name != "" || e != api.OK {
			t.Errorf("Check(%s) = %q %d", s, name, e)
		}
	}
	for _, s := range []string{"a: a", "a: b; b: a", "a: b; b: c; c: b; d", "d; a: b; b: c; c: d a", "x: y; y: y; a: x", "a: b; b: a; c: d; d: c", "a: b c; b: c; c: d; d: b e; e", "a: b a; b", "a: b; b: c; c: c"} {
		l := targets(s)
		got, e := graph.Circle(l)
		if e != api.OK || !newModel(l).goesRound(got) {
			t.Errorf("Circle(%s) = %q %d, which is none", s, got, e)
		}
		if order, e := graph.Order(l); e != api.ErrCircle || len(order) > 0 {
			t.Errorf("Order(%s) = %q %d, must be ErrCircle", s, order, e)
		}
		if name, e := graph.Check(l, nil); name != "" || e != api.ErrCircle {
			t.Errorf("Check(%s) = %q %d, must be ErrCircle", s, name, e)
		}
	}
	l := numbered(api.MaxFiles)
	l[0].Needs = []string{l[api.MaxFiles-1].Name}
	if got, e := graph.Circle(l); e != api.OK || len(got) != api.MaxFiles || !newModel(l).goesRound(got) {
		t.Errorf("Circle of the most that may be: %q %d", got, e)
	}
}

func TestI1CircleOfSome(t *testing.T) {
	l := targets("in1: in2; in2: in1 leaf; to: in1; toto: leaf to; leaf; off: leaf; self: self")
	for name, circular := range map[string]bool{"in1": true, "in2": true, "to": true, "toto": true, "self": true, "leaf": false, "off": false} {
		want := api.OK
		if circular {
			want = api.ErrCircle
		}
		cone, e := graph.Cone(l, name)
		if e != want || circular && len(cone) > 0 {
			t.Errorf("Cone of %s: %q %d, must be %d", name, cone, e, want)
		}
		depth, e := graph.Depth(l, name)
		if e != want || circular && depth != 0 {
			t.Errorf("Depth of %s: %d %d, must be %d", name, depth, e, want)
		}
	}
}

func TestI2ConeUsersDepth(t *testing.T) {
	const some = "c; b: c; a: b; z: a c; d; y: d z d"
	for _, c := range []struct {
		name, cone, users string
		depth             int
	}{
		{"a", "c b a", "y z", 2},
		{"b", "c b", "a y z", 1},
		{"c", "c", "a b y z", 0},
		{"d", "d", "y", 0},
		{"z", "c b a z", "y", 3},
		{"y", "c b a d z y", "", 4},
	} {
		cone, e := graph.Cone(targets(some), c.name)
		if e != api.OK || !same(cone, words(c.cone)) {
			t.Errorf("Cone of %s: %q %d, must be %q", c.name, cone, e, c.cone)
		}
		users, e := graph.Users(targets(some), c.name)
		if e != api.OK || !same(users, words(c.users)) {
			t.Errorf("Users of %s: %q %d, must be %q", c.name, users, e, c.users)
		}
		depth, e := graph.Depth(targets(some), c.name)
		if e != api.OK || depth != c.depth {
			t.Errorf("Depth of %s: %d %d, must be %d", c.name, depth, e, c.depth)
		}
	}
	// As in Order of these alone: b, which comes between in the order of all, is left out.
	cone, e := graph.Cone(targets("z: c a; c: a; a; b: a"), "z")
	if e != api.OK || !same(cone, words("a c z")) {
		t.Errorf("Cone of z: %q %d", cone, e)
	}
	if n, e := graph.Depth(numbered(api.MaxFiles), "t059"); n != api.MaxFiles-1 || e != api.OK {
		t.Errorf("Depth of the deepest: %d %d", n, e)
	}
}

func TestI2UsersInCircles(t *testing.T) {
	l := targets("in1: in2; in2: in1 leaf; to: in1; leaf; self: self; off: leaf")
	for name, want := range map[string]string{"in1": "in1 in2 to", "in2": "in1 in2 to", "to": "", "leaf": "in1 in2 off to", "self": "self", "off": ""} {
		if got, e := graph.Users(l, name); e != api.OK || !same(got, words(want)) {
			t.Errorf("Users of %s: %q %d, must be %q", name, got, e, want)
		}
	}
}

func TestI2NoSuchTarget(t *testing.T) {
	for _, s := range []string{"", "a", "a: b; b", "a: a", "a: b; b: a"} {
		for _, name := range []string{"", "none", "A", "/", strings.Repeat("x", 1000)} {
			l := targets(s)
			cone, e := graph.Cone(l, name)
			users, f := graph.Users(l, name)
			depth, g := graph.Depth(l, name)
			if e != api.ErrNone || f != api.ErrNone || g != api.ErrNone || len(cone)+len(users)+depth > 0 {
				t.Errorf("%q of %q: %q %d; %q %d; %d %d, must be ErrNone", name, s, cone, e, users, f, depth, g)
			}
		}
	}
}

func TestI1I2I4DrawnAgainstModel(t *testing.T) {
	d := draw(9)
	circles := 0
	for i := range 3000 {
		l := drawn(&d, 12, i%2 == 0)
		m := newModel(l)
		order, e := graph.Order(l)
		circle, f := graph.Circle(l)
		name, g := graph.Check(l, nil)
		if m.hasCircle() {
			circles++
			if e != api.ErrCircle || len(order) > 0 || f != api.OK || !m.goesRound(circle) || name != "" || g != api.ErrCircle {
				t.Fatalf("%v: Order %q %d, Circle %q %d, Check %q %d", l, order, e, circle, f, name, g)
			}
		} else if e != api.OK || !same(order, m.order(m.names)) || f != api.OK || len(circle) > 0 || name != "" || g != api.OK {
			t.Fatalf("%v: Order %q %d, Circle %q %d, Check %q %d", l, order, e, circle, f, name, g)
		}
		for _, name := range m.names {
			oneAgainstModel(t, l, m, name)
		}
	}
	if circles < 300 || circles > 1400 {
		t.Errorf("%d of 3000 have circles: that is no test", circles)
	}
}

func oneAgainstModel(t *testing.T, l []api.Target, m model, name string) {
	t.Helper()
	cone, e := graph.Cone(l, name)
	users, f := graph.Users(l, name)
	depth, g := graph.Depth(l, name)
	if f != api.OK || !same(users, m.users(name)) {
		t.Fatalf("%v: Users of %s: %q %d, must be %q", l, name, users, f, m.users(name))
	}
	if m.isCircular(name) {
		if e != api.ErrCircle || g != api.ErrCircle || len(cone) > 0 || depth != 0 {
			t.Fatalf("%v: of %s: Cone %q %d, Depth %d %d, must be ErrCircle", l, name, cone, e, depth, g)
		}
		return
	}
	if e != api.OK || !same(cone, m.cone(name)) || g != api.OK || depth != m.depth(name) {
		t.Fatalf("%v: of %s: Cone %q %d, must be %q; Depth %d %d, must be %d", l, name, cone, e, m.cone(name), depth, g, m.depth(name))
	}
	// Whoever is in a cone needs nothing out of it, and has its target as a user.
	for _, x := range cone {
		for need := range m.needs[x] {
			if !slices.Contains(cone, need) {
				t.Fatalf("%v: the cone of %s lacks %s", l, name, need)
			}
		}
		if users, _ := graph.Users(l, x); x != name && !slices.Contains(users, name) {
			t.Fatalf("%v: %s, of the cone of %s, has the users %q", l, x, name, users)
		}
	}
}

func TestP2P3OnlyReadAndNew(t *testing.T) {
	make2 := func() ([]api.Target, []api.File) {
		spare := append(make([]string, 0, 8), "b", "c")
		l := append(make([]api.Target, 0, 8), api.Target{Name: "a", Needs: spare, Outs: append(make([]string, 0, 8), "o")}, api.Target{Name: "b", Needs: words("c d"), Sources: words("f")}, api.Target{Name: "c", Needs: words("d")}, api.Target{Name: "d"})
		return l, append(make([]api.File, 0, 8), api.File{Path: "f"})
	}
	l, files := make2()
	m := append(slices.Clone(l), api.Target{Name: "e", Needs: words("a f")}, api.Target{Name: "f", Needs: words("e")})
	ask := func() []any {
		order, _ := graph.Order(l)
		circle, _ := graph.Circle(m)
		cone, _ := graph.Cone(l, "a")
		users, _ := graph.Users(l, "d")
		depth, _ := graph.Depth(l, "a")
		name, e := graph.Check(l, files)
		return []any{order, circle, cone, users, depth, name, e}
	}
	first := ask()
	was, wasFiles := make2()
	whole, wasWhole := l[:cap(l)], was[:cap(was)]
	if !reflect.DeepEqual(whole, wasWhole) || !reflect.DeepEqual(whole[0].Needs[:8], wasWhole[0].Needs[:8]) || !reflect.DeepEqual(whole[0].Outs[:8], wasWhole[0].Outs[:8]) || !reflect.DeepEqual(files[:8], wasFiles[:8]) {
		t.Errorf("what was handed in was changed: %v %v", whole, files[:8])
	}
	if second := ask(); !reflect.DeepEqual(first, second) {
		t.Errorf("at first %v, then %v", first, second)
	}
	for _, answer := range first {
		if texts, is := answer.([]string); is {
			for i := range texts {
				texts[i] = "changed"
			}
		}
	}
	if !reflect.DeepEqual(l[:cap(l)], was[:cap(was)]) {
		t.Errorf("an answer has memory of what was handed in: %v", l)
	}
	// Of several circles it is the same each time.
	many := targets("a: b; b: a; c: d; d: c; e: e; f: g h; g: f; h: f")
	one, _ := graph.Circle(many)
	for range 100 {
		if again, _ := graph.Circle(many); !same(one, again) {
			t.Fatalf("Circle is %q, and then %q", one, again)
		}
	}
}
