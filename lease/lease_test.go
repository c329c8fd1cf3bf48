package lease_test

import (
	"fmt"
	"slices"
	"strings"
	"testing"

	"foundry/api"
	"foundry/lease"
)

func TestM1New(t *testing.T) {
	for _, c := range []struct {
		terms api.Terms
		e     api.Errno
	}{
		{api.Terms{Last: 1, Tries: 1, Twins: 1}, api.OK},
		{api.Terms{Last: api.MaxTime, Tries: 10, Twins: 5}, api.OK},
		{api.Terms{}, api.ErrRange},
		{api.Terms{Last: 0, Tries: 1, Twins: 1}, api.ErrRange},
		{api.Terms{Last: -1, Tries: 1, Twins: 1}, api.ErrRange},
		{api.Terms{Last: api.MaxTime + 1, Tries: 1, Twins: 1}, api.ErrRange},
		{api.Terms{Last: 1, Tries: 0, Twins: 1}, api.ErrRange},
		{api.Terms{Last: 1, Tries: -1, Twins: 1}, api.ErrRange},
		{api.Terms{Last: 1, Tries: 11, Twins: 1}, api.ErrRange},
		{api.Terms{Last: 1, Tries: 1, Twins: 0}, api.ErrRange},
		{api.Terms{Last: 1, Tries: 1, Twins: -1}, api.ErrRange},
		{api.Terms{Last: 1, Tries: 1, Twins: 6}, api.ErrRange},
	} {
		b, e := lease.New(c.terms)
		if e != c.e || (b == nil) != (e != api.OK) {
			t.Errorf("New(%v): %v %d, must be %d", c.terms, b, e, c.e)
		}
		if b != nil {
			plays(t, b, "leases:\nstate a: none 0\ntick 0: 0\nadd a: 0\nstate a: waiting 0\nleases:")
		}
	}
}

func TestM1Add(t *testing.T) {
	b := newBook(t, 5, 2, 1)
	for _, c := range []struct {
		job string
		e   api.Errno
	}{
		{"", api.ErrForm}, {".", api.ErrForm}, {"..", api.ErrForm}, {"A", api.ErrForm}, {"a/b", api.ErrForm}, {"a b", api.ErrForm}, {"\xff", api.ErrForm},
		{strings.Repeat("a", api.MaxName+1), api.ErrForm},
		{strings.Repeat("a", api.MaxName), api.OK},
		{"a", api.OK}, {"a", api.ErrTwice}, {"b-1_.", api.OK}, {"...", api.OK}, {"a", api.ErrTwice},
	} {
		if e := b.Add(c.job); e != c.e {
			t.Errorf("Add(%q): %d, must be %d", c.job, e, c.e)
		}
		want := api.JobNone
		if c.e != api.ErrForm {
			want = api.JobWaiting
		}
		if state, tries := b.State(c.job); state != want || tries != 0 {
			t.Errorf("then State(%q): %d %d", c.job, state, tries)
		}
	}
	for i := 4; i < api.MaxJobs; i++ {
		if e := b.Add(fmt.Sprint("n", i)); e != api.OK {
			t.Fatalf("Add of the job %d: %d", i, e)
		}
	}
	// However jobs are, as many as may be are known.
	plays(t, b, `
		add one: 2
		state one: none 0
		grant a 1 0: 0
		good a 1 0: 0
		add a: 6
		add A: 1
		add one: 2
		grant n9 1 0: 0
		add n9: 6
		bad n9 1 0: 0
		grant n9 1 0: 0
		bad n9 1 0: 0
		state n9: lost 2
		add n9: 6
		add one: 2
		state n199: waiting 0`)
}

func TestM2Range(t *testing.T) {
	b := newBook(t, 5, 9, 5, "a")
	if e := b.Grant("a", 1, 7); e != api.OK {
		t.Fatalf("Grant: %d", e)
	}
	// ErrRange, whatever else is wrong; what is told with it does not count.
	for _, now := range []int{-1, api.MaxTime + 1, -1 << 62, 1<<62 + 5} {
		for _, worker := range []int{0, 1, 51} {
			plays(t, b, fmt.Sprintf("grant a %[1]d %[2]d: 3\nbeat a %[1]d %[2]d: 3\ngood a %[1]d %[2]d: 3\nbad a %[1]d %[2]d: 3\ngrant none %[1]d %[2]d: 3\ntick %[2]d: 3", worker, now))
		}
	}
	for _, worker := range []int{0, -1, api.MaxWorkers + 1, 1 << 62} {
		for _, now := range []int{6, 7, 99} {
			plays(t, b, fmt.Sprintf("grant a %[1]d %[2]d: 3\nbeat a %[1]d %[2]d: 3\ngood a %[1]d %[2]d: 3\nbad a %[1]d %[2]d: 3\ngrant none %[1]d %[2]d: 3", worker, now))
		}
	}
	plays(t, b, `
		leases: a/1/12
		state a: leased 1
		tick 7: 0
		grant a 50 7: 0
		leases: a/1/12 a/50/12
		beat a 50 1000000000: 5
		tick 1000000000: 0
		grant a 50 1000000000: 0
		leases: a/50/1000000005`)
}

func TestM2TimeDoesNotGoBack(t *testing.T) {
	b := newBook(t, 5, 9, 1, "a", "b", "c")
	plays(t, b, `
		tick 3: 0
		tick 2: 4
		tick 3: 0
		grant a 1 2: 4
		state a: waiting 0
		grant a 1 3: 0
		beat a 1 2: 4
		leases: a/1/8
		good a 1 2: 4
		bad a 1 2: 4
		state a: leased 1
		grant none 1 2: 4
		beat none 1 2: 4
		bad none 1 2: 4
		grant a 1 2: 4`)
	// What is told with any other error counts, as it does if all is well.
	plays(t, b, `
		grant none 1 4: 5
		tick 3: 4
		grant a 1 5: 6
		tick 4: 4
		grant a 2 6: 2
		tick 5: 4
		beat a 2 7: 5
		tick 6: 4
		bad a 2 8: 5
		tick 7: 4
		beat a 1 8: 0
		leases: a/1/13
		good a 1 9: 0
		tick 8: 4
		grant a 1 10: 4
		tick 9: 4
		grant b 1 11: 0
		tick 10: 4
		beat b 1 12: 0
		tick 11: 4
		bad b 1 13: 0
		tick 12: 4
		tick 14: 0
		tick 13: 4
		tick 14: 0
		state a: done 1
		state b: waiting 1`)
	// Of a time that was told with an error of time nothing is known.
	plays(t, b, `
		tick 1000000001: 3
		grant c 51 99: 3
		tick 13: 4
		tick 14: 0`)
}

func TestM2Over(t *testing.T) {
	plays(t, newBook(t, 5, 2, 3, "a", "b", "c"), `
		grant c 1 0: 0
		grant a 2 0: 0
		grant a 1 1: 0
		grant b 3 1: 0
		leases: a/1/6 a/2/5 b/3/6 c/1/5
		tick 5: 0
		leases: a/1/6 a/2/5 b/3/6 c/1/5
		tick 6: 0 c
		leases: a/1/6 b/3/6
		state a: leased 2
		state c: waiting 1
		tick 6: 0
		tick 7: 0 a b
		leases:
		state a: lost 2
		state b: waiting 1
		tick 7: 0
		grant b 1 7: 0
		tick 1000000000: 0 b
		state b: lost 2
		state c: waiting 1`)
	// It waits, as nobody tried it too often, or is lost; and is known by its name.
	plays(t, newBook(t, 1, 1, 1, "b", "a", "c"), `
		grant b 1 0: 0
		grant c 2 0: 0
		grant a 3 0: 0
		good c 2 1: 0
		tick 2: 0 a b
		state a: lost 1
		state b: lost 1
		state c: done 1`)
	// A lease of the greatest time is till a time that never is told.
	plays(t, newBook(t, 1000000000, 1, 1, "a"), `
		grant a 1 0: 0
		tick 1000000000: 0
		beat a 1 1000000000: 0
		leases: a/1/2000000000`)
}

// TestM2OverWhateverIsAsked: each call that tells the time ends what is over, with an error or without one.
func TestM2OverWhateverIsAsked(t *testing.T) {
	for asked, want := range map[string]string{
		"grant none 1 6": "5", "grant done 1 6": "4", "grant lost 1 6": "4", "grant other 3 6": "6", "grant other 4 6": "2", "grant free 1 6": "0",
		"beat none 1 6": "5", "beat a 1 6": "5", "beat other 3 6": "0", "beat free 3 6": "5",
		"good none 1 6": "5", "good a 1 6": "5", "good other 3 6": "0",
		"bad none 1 6": "5", "bad a 1 6": "5", "bad other 3 6": "0",
		"grant a 1 6": "0", "tick 6": "0 a",
	} {
		b := newBook(t, 5, 2, 1, "a", "done", "lost", "other", "free")
		plays(t, b, `
			grant done 9 0: 0
			good done 9 0: 0
			grant lost 9 0: 0
			bad lost 9 0: 0
			grant lost 9 0: 0
			bad lost 9 0: 0
			grant a 1 0: 0
			grant other 3 1: 0`)
		plays(t, b, asked+": "+want)
		left := "waiting 1"
		if asked == "grant a 1 6" {
			left = "leased 2"
		}
		plays(t, b, "state a: "+left)
		// So nothing is left for Tick to tell.
		plays(t, b, "tick 6: 0")
	}
}

func TestM3Grant(t *testing.T) {
	plays(t, newBook(t, 5, 4, 2, "a", "b"), `
		grant a 1 0: 0
		state a: leased 1
		state b: waiting 0
		leases: a/1/5
		grant none 1 0: 5
		grant a 1 0: 6
		grant a 7 2: 0
		state a: leased 2
		leases: a/1/5 a/7/7
		grant a 3 2: 2
		grant a 7 2: 6
		grant a 1 2: 6
		state a: leased 2
		grant b 1 2: 0
		leases: a/1/5 a/7/7 b/1/7
		bad a 1 2: 0
		grant a 1 2: 0
		leases: a/1/7 a/7/7 b/1/7
		state a: leased 3`)
	// It is tried no more often than it may be, though few have it.
	plays(t, newBook(t, 5, 2, 3, "a"), `
		grant a 1 0: 0
		grant a 2 0: 0
		grant a 3 0: 2
		grant a 1 0: 6
		bad a 1 0: 0
		grant a 1 0: 2
		grant a 2 0: 6
		state a: leased 2
		bad a 2 0: 0
		state a: lost 2
		grant a 1 0: 4
		grant a 2 0: 4`)
	// Nobody has what is done, or lost.
	plays(t, newBook(t, 5, 1, 2, "a", "b"), `
		grant a 1 0: 0
		grant a 2 0: 2
		good a 1 0: 0
		grant a 1 0: 4
		grant a 2 0: 4
		grant b 2 0: 0
		tick 6: 0 b
		grant b 2 6: 4
		state b: lost 1
		state a: done 1
		leases:`)
}

func TestM3Beat(t *testing.T) {
	plays(t, newBook(t, 5, 3, 2, "a", "b"), `
		beat a 1 0: 5
		beat none 1 0: 5
		grant a 1 0: 0
		grant a 2 1: 0
		beat a 3 1: 5
		beat b 1 1: 5
		beat a 1 5: 0
		leases: a/1/10 a/2/6
		state a: leased 2
		tick 7: 0
		leases: a/1/10
		beat a 2 7: 5
		beat a 1 7: 0
		beat a 1 7: 0
		leases: a/1/12
		beat a 1 12: 0
		beat a 1 18: 5
		state a: waiting 2
		beat a 1 18: 5
		grant a 1 18: 0
		good a 1 18: 0
		beat a 1 18: 5`)
}

func TestM3Done(t *testing.T) {
	plays(t, newBook(t, 5, 3, 2, "a", "b", "c"), `
		good a 1 0: 5
		bad a 1 0: 5
		good none 1 0: 5
		bad none 1 0: 5
		state a: waiting 0
		grant a 1 0: 0
		grant a 2 0: 0
		grant b 1 0: 0
		good b 2 0: 5
		good a 2 0: 0
		leases: b/1/5
		state a: done 2
		good a 1 0: 5
		good a 2 0: 5
		bad a 1 0: 5
		bad b 1 0: 0
		state b: waiting 1
		bad b 1 0: 5
		good b 1 0: 5
		grant b 1 0: 0
		grant b 2 0: 0
		bad b 1 0: 0
		state b: leased 3
		leases: b/2/5
		good b 2 5: 0
		state b: done 3
		grant c 1 5: 0
		bad c 1 5: 0
		grant c 1 5: 0
		good c 1 11: 5
		state c: waiting 2
		grant c 2 11: 0
		bad c 2 11: 0
		state c: lost 3
		good c 2 11: 5
		tick 1000000000: 0
		state a: done 2
		state b: done 3
		state c: lost 3`)
}

// TestM3WhichErrorComesFirst: a job of which several things are wrong.
func TestM3WhichErrorComesFirst(t *testing.T) {
	plays(t, newBook(t, 5, 2, 2, "a", "b"), `
		grant b 1 1: 0
		good b 1 1: 0
		grant a 1 1: 0
		grant a 2 1: 0
		grant a 0 0: 3
		grant a 1 0: 4
		grant none 1 0: 4
		grant none 1 1: 5
		grant a 1 1: 6
		grant a 3 1: 2
		grant b 1 1: 4`)
}

func TestM4StateAndLeases(t *testing.T) {
	b := newBook(t, 9, 9, 5, "b", "a", "a-", "10", "9")
	plays(t, b, "leases:\nstate none: none 0\nstate : none 0\nstate A: none 0")
	for i, worker := range []int{50, 7, 10, 9, 1} {
		plays(t, b, fmt.Sprintf("grant a %[1]d %[2]d: 0\ngrant b %[1]d %[2]d: 0\ngrant 9 %[1]d %[2]d: 0", worker, i))
	}
	plays(t, b, `
		grant a- 3 4: 0
		grant 10 3 4: 0
		leases: 10/3/13 9/1/13 9/7/10 9/9/12 9/10/11 9/50/9 a/1/13 a/7/10 a/9/12 a/10/11 a/50/9 a-/3/13 b/1/13 b/7/10 b/9/12 b/10/11 b/50/9
		state a: leased 5
		state none: none 0`)
}

func TestP1BooksThatNewDidNotMake(t *testing.T) {
	for _, b := range []*lease.Book{nil, {}} {
		plays(t, b, `
			add A: 1
			add a: 2
			state a: none 0
			leases:
			tick 5: 0
			tick -1: 3
			tick 1000000001: 3
			grant a 1 5: 5
			grant a 0 5: 3
			beat a 1 5: 5
			beat a 51 5: 3
			good a 1 5: 5
			bad a 1 5: 5
			bad a 1 -1: 3`)
	}
}

func TestP2NewMemory(t *testing.T) {
	b := newBook(t, 5, 2, 2, "a", "b")
	plays(t, b, "grant a 1 0: 0\ngrant b 2 0: 0\ngrant b 1 0: 0")
	l := b.Leases()
	for i := range l[:cap(l)] {
		l[:cap(l)][i] = api.Lease{Job: "changed"}
	}
	plays(t, b, "leases: a/1/5 b/1/5 b/2/5\nstate changed: none 0")
	free, _ := b.Tick(6)
	for i := range free[:cap(free)] {
		free[:cap(free)][i] = "changed"
	}
	plays(t, b, "leases:\nstate a: waiting 1\nstate b: lost 2\nstate changed: none 0")
}

// TestP3TwoBooks do not know of each other.
func TestP3TwoBooks(t *testing.T) {
	b, c := newBook(t, 5, 2, 2, "a"), newBook(t, 3, 1, 1, "a", "b")
	plays(t, b, "grant a 1 9: 0")
	plays(t, c, "state a: waiting 0\nleases:\ngrant a 1 0: 0\ngrant b 1 0: 0\ntick 4: 0 a b\nstate a: lost 1")
	plays(t, b, "state a: leased 1\nleases: a/1/14\nstate b: none 0")
}

// TestP3AskingChangesNothing: State, Leases and what is refused for its time.
func TestP3AskingChangesNothing(t *testing.T) {
	b := newBook(t, 5, 2, 2, "a", "b")
	plays(t, b, "grant a 1 3: 0")
	for range 3 {
		plays(t, b, "state a: leased 1\nstate b: waiting 0\nleases: a/1/8\ntick 2: 4\ngrant b 99 3: 3\nadd a: 6\nadd A: 1")
	}
	if l, m := b.Leases(), b.Leases(); !slices.Equal(l, m) {
		t.Errorf("Leases: %v, then %v", l, m)
	}
}
