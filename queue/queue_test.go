package queue_test

import (
	"fmt"
	"slices"
	"strings"
	"testing"

	"foundry/api"
	"foundry/queue"
)

func newQueue(t *testing.T, quantum int) *queue.Queue {
	t.Helper()
	q, e := queue.New(quantum)
	if q == nil || e != api.OK {
		t.Fatalf("New(%d): %v %d", quantum, q, e)
	}
	return q
}

// jobs of a text: `1 a 3, 2 b 4` is an `a` of the tenant 1 that costs 3, and a `b` of 2 that costs 4.
func jobs(s string) []api.Job {
	var l []api.Job
	for _, part := range strings.Split(s, ", ") {
		var j api.Job
		if _, e := fmt.Sscan(part, &j.Tenant, &j.Name, &j.Cost); e != nil {
			panic(part)
		}
		l = append(l, j)
	}
	return l
}

func put(t *testing.T, q *queue.Queue, s string) {
	t.Helper()
	for _, j := range jobs(s) {
		if e := q.Put(j); e != api.OK {
			t.Fatalf("Put(%v): %d", j, e)
		}
	}
}

func drop(t *testing.T, q *queue.Queue, names string) {
	t.Helper()
	for _, name := range strings.Fields(names) {
		if !q.Drop(name) {
			t.Fatalf("Drop(%q): false", name)
		}
	}
}

// next are, one after the other, the jobs with these names.
func next(t *testing.T, q *queue.Queue, names string) {
	t.Helper()
	for i, name := range strings.Fields(names) {
		if j, there := q.Next(); j.Name != name || !there {
			t.Fatalf("Next %d of %s: %v %v, must be %s", i, names, j, there, name)
		}
	}
}

func isEmpty(t *testing.T, q *queue.Queue) {
	t.Helper()
	for range 2 {
		if j, there := q.Next(); j != (api.Job{}) || there {
			t.Fatalf("Next: %v %v, and nothing is to wait", j, there)
		}
	}
	for tenant := -1; tenant <= api.MaxTenants+1; tenant++ {
		waits(t, q, tenant, "")
	}
}

func waits(t *testing.T, q *queue.Queue, tenant int, names string) {
	t.Helper()
	if got := q.Waiting(tenant); !slices.Equal(got, strings.Fields(names)) {
		t.Errorf("Waiting(%d): %q, must be %s", tenant, got, names)
	}
}

func TestL1New(t *testing.T) {
	for _, c := range []struct {
		quantum int
		e       api.Errno
	}{
		{1, api.OK},
		{2, api.OK},
		{api.MaxCost, api.OK},
		{api.MaxCost + 1, api.ErrRange},
		{0, api.ErrRange},
		{-1, api.ErrRange},
		{-1 << 63, api.ErrRange},
		{1<<63 - 1, api.ErrRange},
	} {
		q, e := queue.New(c.quantum)
		if (q == nil) != (c.e != api.OK) || e != c.e {
			t.Errorf("New(%d): %v %d", c.quantum, q, e)
		}
		if q != nil {
			isEmpty(t, q)
		}
	}
}

func TestL1PutErrors(t *testing.T) {
	long := strings.Repeat("n", api.MaxName)
	for _, full := range []bool{false, true} {
		q := newQueue(t, 1)
		put(t, q, "1 there 1")
		for i := 1; full && i < api.MaxJobs; i++ {
			put(t, q, fmt.Sprintf("%d n%d 1", 1+i%api.MaxTenants, i))
		}
		for _, c := range []struct {
			j api.Job
			e api.Errno
		}{
			{api.Job{Tenant: 0, Name: "x", Cost: 1}, api.ErrRange},
			{api.Job{Tenant: -1, Name: "x", Cost: 1}, api.ErrRange},
			{api.Job{Tenant: api.MaxTenants + 1, Name: "", Cost: 1}, api.ErrRange},
			{api.Job{Tenant: 1, Name: "x", Cost: 0}, api.ErrRange},
			{api.Job{Tenant: 1, Name: "", Cost: -1}, api.ErrRange},
			{api.Job{Tenant: 1, Name: "there", Cost: api.MaxCost + 1}, api.ErrRange},
			{api.Job{Tenant: 0, Name: "there", Cost: 1}, api.ErrRange},
			{api.Job{Tenant: 1, Name: "", Cost: 1}, api.ErrForm},
			{api.Job{Tenant: 1, Name: "..", Cost: 1}, api.ErrForm},
			{api.Job{Tenant: 1, Name: "a/b", Cost: 1}, api.ErrForm},
			{api.Job{Tenant: 1, Name: "There", Cost: 1}, api.ErrForm},
			{api.Job{Tenant: 1, Name: long + "n", Cost: 1}, api.ErrForm},
			{api.Job{Tenant: 1, Name: "there", Cost: 1}, api.ErrTwice},
			{api.Job{Tenant: 2, Name: "there", Cost: 2}, api.ErrTwice},
		} {
			if e := q.Put(c.j); e != c.e {
				t.Errorf("Put(%v): %d, must be %d", c.j, e, c.e)
			}
		}
		if !full {
			waits(t, q, 1, "there")
			waits(t, q, 2, "")
			put(t, q, fmt.Sprintf("1 %s 1, %d there- %d", long, api.MaxTenants, api.MaxCost))
			continue
		}
		if e := q.Put(api.Job{Tenant: 1, Name: "x", Cost: 1}); e != api.ErrMany {
			t.Errorf("Put of one more than may wait: %d", e)
		}
	}
}

func TestL1ManyJobs(t *testing.T) {
	q := newQueue(t, 1)
	more := func(want api.Errno) {
		t.Helper()
		if e := q.Put(api.Job{Tenant: 2, Name: "more", Cost: 1}); e != want {
			t.Errorf("Put: %d, must be %d", e, want)
		}
	}
	var names []string
	for i := range api.MaxJobs {
		names = append(names, fmt.Sprintf("n%d", i))
		put(t, q, "1 "+names[i]+" 1")
	}
	more(api.ErrMany)
	more(api.ErrMany)
	waits(t, q, 1, strings.Join(names, " "))
	waits(t, q, 2, "")
	next(t, q, "n0")
	more(api.OK)
	more(api.ErrTwice)
	drop(t, q, "n199")
	put(t, q, "3 n199 1")
	if e := q.Put(api.Job{Tenant: 4, Name: "n0", Cost: 1}); e != api.ErrMany {
		t.Errorf("Put: %d", e)
	}
}

func TestL1WaitingAndDrop(t *testing.T) {
	q := newQueue(t, 5)
	put(t, q, "1 a 1, 2 b 1, 1 c 1, 20 d 1, 1 e 1, 2 f 1")
	waits(t, q, 1, "a c e")
	waits(t, q, 2, "b f")
	waits(t, q, 20, "d")
	for _, tenant := range []int{0, 3, 21, -1 << 63, 1<<63 - 1} {
		waits(t, q, tenant, "")
	}
	drop(t, q, "c")
	waits(t, q, 1, "a e")
	for _, name := range []string{"c", "", "none", "A", " a"} {
		if q.Drop(name) {
			t.Errorf("Drop(%q): true", name)
		}
	}
	// A name that does not wait any more may be put again: it is the last one.
	put(t, q, "1 c 1")
	waits(t, q, 1, "a e c")
	drop(t, q, "c")
	put(t, q, "2 c 1")
	waits(t, q, 1, "a e")
	waits(t, q, 2, "b f c")
	drop(t, q, "a d e b c")
	waits(t, q, 2, "f")
	drop(t, q, "f")
	isEmpty(t, q)
	put(t, q, "2 a 1")
	next(t, q, "a")
	if q.Drop("a") {
		t.Errorf("Drop of what was taken: true")
	}
	put(t, q, "1 a 2, 1 b 3")
	if j, there := q.Next(); j != (api.Job{Tenant: 1, Name: "a", Cost: 2}) || !there {
		t.Errorf("Next: %v %v", j, there)
	}
}

func TestL2Turns(t *testing.T) {
	for _, c := range []struct {
		quantum     int
		jobs, order string
	}{
		{5, "1 a 3", "a"},
		{1, "1 a 1000", "a"},
		{api.MaxCost, "1 a 1000, 1 b 1000", "a b"},
		// One turn goes on as long as there is credit: just as much is enough.
		{5, "1 a 5, 1 b 1, 2 c 5, 2 d 1", "a c b d"},
		{5, "1 a 3, 1 b 2, 1 c 1, 2 d 4, 2 e 2", "a b d c e"},
		{5, "1 a 1, 1 b 1, 1 c 1, 1 d 1, 1 e 1, 1 f 1, 2 g 1", "a b c d e g f"},
		// What is left is kept: 2 and 5 are enough for 7; and is added up.
		{5, "1 a 3, 1 b 7, 2 c 1, 2 d 5, 2 e 4", "a c b d e"},
		{5, "1 a 14, 2 b 5, 2 c 5, 2 d 5", "b c a d"},
		{5, "1 a 15, 2 b 5, 2 c 5, 2 d 5", "b c a d"},
		{5, "1 a 16, 2 b 5, 2 c 5, 2 d 5", "b c d a"},
		{1, "1 a 3, 2 b 2, 3 c 1, 3 d 1", "c b d a"},
		// The ring is in the order in which they came, not by their numbers, and nobody is skipped.
		{1, "9 a 1, 3 b 1, 20 c 1, 1 d 1, 3 e 1, 9 f 1", "a b c d f e"},
	} {
		q := newQueue(t, c.quantum)
		put(t, q, c.jobs)
		next(t, q, c.order)
		isEmpty(t, q)
	}
}

func TestL2WhoLeavesHasNoCredit(t *testing.T) {
	// By its last job's being taken: 4 are left, which it would need for b.
	q := newQueue(t, 5)
	put(t, q, "1 a 1")
	next(t, q, "a")
	put(t, q, "1 b 9, 2 c 4, 2 d 4, 2 e 4")
	next(t, q, "c b d e")
	isEmpty(t, q)
	q = newQueue(t, 5)
	put(t, q, "1 a 1, 2 x 5, 2 y 5")
	next(t, q, "a")
	put(t, q, "1 b 9")
	// It stands at the end, and gets 5, and 5 again.
	next(t, q, "x y b")
	// By Drop, in its turn, and out of it.
	q = newQueue(t, 5)
	put(t, q, "1 a 1, 1 b 6, 2 c 5, 2 d 5, 2 e 5")
	next(t, q, "a")
	drop(t, q, "b")
	put(t, q, "1 b 9")
	next(t, q, "c d b e")
	q = newQueue(t, 5)
	put(t, q, "1 a 9, 2 c 5, 2 d 5, 2 e 5")
	next(t, q, "c")
	drop(t, q, "a")
	put(t, q, "1 a 9")
	next(t, q, "d a e")
}

func TestL2TurnsAndDrop(t *testing.T) {
	// Whose turn it is has left: the next one's begins, with its own quantum.
	q := newQueue(t, 5)
	put(t, q, "1 a 1, 1 b 1, 2 c 5, 3 d 1")
	next(t, q, "a")
	drop(t, q, "b")
	next(t, q, "c d")
	isEmpty(t, q)
	// Its first job is dropped: the turn goes on with the credit that it has.
	q = newQueue(t, 5)
	put(t, q, "1 a 1, 1 b 5, 1 c 4, 1 d 1, 2 e 1")
	next(t, q, "a")
	drop(t, q, "b")
	next(t, q, "c e d")
	// Another one leaves: the turn goes on, and no quantum is added to it.
	q = newQueue(t, 5)
	put(t, q, "1 a 1, 1 b 5, 2 c 1, 3 d 1")
	next(t, q, "a")
	drop(t, q, "c")
	next(t, q, "d b")
	q = newQueue(t, 5)
	put(t, q, "1 a 1, 1 b 4, 2 c 1, 3 d 1")
	next(t, q, "a")
	drop(t, q, "d")
	next(t, q, "b c")
	// Who has no turn yet leaves from the front, and takes nothing along.
	q = newQueue(t, 5)
	put(t, q, "1 a 1, 2 b 5, 2 c 1, 3 d 1")
	drop(t, q, "a")
	next(t, q, "b d c")
}

func TestL2PutInTurns(t *testing.T) {
	// A job that comes in its tenant's turn has it still.
	q := newQueue(t, 5)
	put(t, q, "1 a 1, 1 b 1, 2 c 1")
	next(t, q, "a")
	put(t, q, "1 d 3, 1 e 1")
	next(t, q, "b d c e")
	// But not, if its tenant had none any more.
	q = newQueue(t, 5)
	put(t, q, "1 a 1, 2 b 1, 2 c 1")
	next(t, q, "a")
	put(t, q, "1 d 1, 3 e 1")
	next(t, q, "b c d e")
	// Next, when nothing waits, gives nobody anything.
	q = newQueue(t, 5)
	isEmpty(t, q)
	put(t, q, "1 a 6, 2 b 5")
	next(t, q, "b a")
	isEmpty(t, q)
	put(t, q, "1 a 6, 2 b 5")
	next(t, q, "b a")
}

func TestP1AQueueThatNewDidNotMake(t *testing.T) {
	none, _ := queue.New(0)
	for _, q := range []*queue.Queue{none, {}} {
		if e := q.Put(api.Job{Tenant: 1, Name: "a", Cost: 1}); e != api.ErrMany {
			t.Errorf("Put: %d", e)
		}
		if e := q.Put(api.Job{}); e != api.ErrRange {
			t.Errorf("Put: %d", e)
		}
		if q.Drop("a") {
			t.Errorf("Drop: true")
		}
		isEmpty(t, q)
	}
}

func TestP2WhatIsAnsweredIsTheCallers(t *testing.T) {
	q := newQueue(t, 5)
	put(t, q, "1 a 1, 1 b 1, 1 c 1")
	names := q.Waiting(1)
	for i := range names[:cap(names)] {
		names[:cap(names)][i] = "changed"
	}
	waits(t, q, 1, "a b c")
	names = q.Waiting(1)
	next(t, q, "a b")
	if !slices.Equal(names, []string{"a", "b", "c"}) {
		t.Errorf("an answer became %q", names)
	}
}

func TestP3TwoQueuesDoNotKnowEachOther(t *testing.T) {
	q, r := newQueue(t, 5), newQueue(t, 1)
	put(t, q, "1 a 3, 2 b 2, 2 c 3")
	isEmpty(t, r)
	put(t, r, "1 a 3, 2 b 2, 2 c 1")
	next(t, q, "a b")
	next(t, r, "b a")
	drop(t, q, "c")
	next(t, r, "c")
}
