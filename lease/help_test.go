package lease_test

import (
	"fmt"
	"strings"
	"testing"

	"foundry/api"
	"foundry/lease"
)

// draw numbers that are the same each time.
type draw uint64

func (d *draw) below(n int) int {
	*d = *d*6364136223846793005 + 1442695040888963407
	return int(uint64(*d) >> 33 % uint64(n))
}

// booklike is what can be asked of a book, and of its model.
type booklike interface {
	Add(job string) api.Errno
	Grant(job string, worker, now int) api.Errno
	Beat(job string, worker, now int) api.Errno
	Done(job string, worker, now int, good bool) api.Errno
	Tick(now int) ([]string, api.Errno)
	State(job string) (int, int)
	Leases() []api.Lease
}

// newBook of terms, in which these jobs are known.
func newBook(t *testing.T, last, tries, twins int, jobs ...string) *lease.Book {
	t.Helper()
	b, e := lease.New(api.Terms{Last: last, Tries: tries, Twins: twins})
	if b == nil || e != api.OK {
		t.Fatalf("New: %v %d", b, e)
	}
	for _, j := range jobs {
		if e := b.Add(j); e != api.OK {
			t.Fatalf("Add(%s): %d", j, e)
		}
	}
	return b
}

// say what a book answers if it is asked by a text: `grant a 1 5` is a Grant of the job a to the worker 1 at the time 5.
func say(b booklike, asked string) string {
	var what, job string
	var worker, now int
	switch what = strings.Fields(asked)[0]; what {
	case "tick":
		fmt.Sscan(asked, &what, &now)
		l, e := b.Tick(now)
		return strings.Join(append([]string{fmt.Sprint(int(e))}, l...), " ")
	case "add", "state":
		fmt.Sscan(asked, &what, &job)
	case "leases":
		var l []string
		for _, one := range b.Leases() {
			l = append(l, fmt.Sprintf("%s/%d/%d", one.Job, one.Worker, one.Till))
		}
		return strings.Join(l, " ")
	default:
		fmt.Sscan(asked, &what, &job, &worker, &now)
	}
	switch what {
	case "add":
		return fmt.Sprint(int(b.Add(job)))
	case "state":
		state, tries := b.State(job)
		return fmt.Sprint([]string{"none", "waiting", "leased", "done", "lost"}[state], " ", tries)
	case "grant":
		return fmt.Sprint(int(b.Grant(job, worker, now)))
	case "beat":
		return fmt.Sprint(int(b.Beat(job, worker, now)))
	case "good", "bad":
		return fmt.Sprint(int(b.Done(job, worker, now, what == "good")))
	}
	panic(asked)
}

// plays a script with a book: lines of what is asked, `:` and what it answers.
func plays(t *testing.T, b booklike, script string) {
	t.Helper()
	for i, line := range strings.Split(strings.TrimSpace(script), "\n") {
		asked, want, _ := strings.Cut(strings.TrimSpace(line), ":")
		if got := say(b, asked); got != strings.TrimSpace(want) {
			t.Errorf("line %d, %s: it says %q", i, line, got)
		}
	}
}
