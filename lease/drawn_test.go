package lease_test

import (
	"fmt"
	"slices"
	"strings"
	"testing"

	"foundry/api"
)

// model of a book: all leases in one list, and of each job its state, which is changed as the document tells it.
type model struct {
	terms  api.Terms
	now    int
	state  map[string]int
	tries  map[string]int
	leases []api.Lease
}

func newModel(terms api.Terms) *model {
	return &model{terms: terms, state: map[string]int{}, tries: map[string]int{}}
}

func (m *model) Add(job string) api.Errno {
	if m.state[job] != api.JobNone {
		return api.ErrTwice
	}
	if len(m.state) == api.MaxJobs {
		return api.ErrMany
	}
	m.state[job] = api.JobWaiting
	return api.OK
}

func (m *model) place(job string, worker int) int {
	return slices.IndexFunc(m.leases, func(l api.Lease) bool { return l.Job == job && l.Worker == worker })
}

func (m *model) having(job string) int {
	n := 0
	for _, l := range m.leases {
		if l.Job == job {
			n++
		}
	}
	return n
}

// gone is a lease: what becomes of its job.
func (m *model) gone(i int) bool {
	job := m.leases[i].Job
	m.leases = slices.Delete(m.leases, i, i+1)
	if m.having(job) > 0 {
		return false
	}
	m.state[job] = api.JobWaiting
	if m.tries[job] == m.terms.Tries {
		m.state[job] = api.JobLost
	}
	return true
}

func (m *model) Tick(now int) ([]string, api.Errno) {
	if now < 0 {
		return nil, api.ErrRange
	}
	if now < m.now {
		return nil, api.ErrState
	}
	m.now = now
	var free []string
	for i := 0; i < len(m.leases); {
		l := m.leases[i]
		if now <= l.Till {
			i++
		} else if m.gone(i) {
			free = append(free, l.Job)
		}
	}
	slices.Sort(free)
	return free, api.OK
}

func (m *model) Grant(job string, worker, now int) api.Errno {
	_, e := m.Tick(now)
	switch state := m.state[job]; {
	case e != api.OK:
		return e
	case state == api.JobNone:
		return api.ErrNone
	case state == api.JobDone || state == api.JobLost:
		return api.ErrState
	case m.place(job, worker) >= 0:
		return api.ErrTwice
	case m.having(job) == m.terms.Twins || m.tries[job] == m.terms.Tries:
		return api.ErrMany
	}
	m.leases = append(m.leases, api.Lease{Job: job, Worker: worker, Till: now + m.terms.Last})
	m.tries[job]++
	m.state[job] = api.JobLeased
	return api.OK
}

func (m *model) Beat(job string, worker, now int) api.Errno {
	if _, e := m.Tick(now); e != api.OK {
		return e
	}
	i := m.place(job, worker)
	if i < 0 {
		return api.ErrNone
	}
	m.leases[i].Till = now + m.terms.Last
	return api.OK
}

func (m *model) Done(job string, worker, now int, good bool) api.Errno {
	if _, e := m.Tick(now); e != api.OK {
		return e
	}
	i := m.place(job, worker)
	if i < 0 {
		return api.ErrNone
	}
	m.gone(i)
	if good {
		m.state[job] = api.JobDone
		m.leases = slices.DeleteFunc(m.leases, func(l api.Lease) bool { return l.Job == job })
	}
	return api.OK
}

func (m *model) State(job string) (int, int) { return m.state[job], m.tries[job] }

func (m *model) Leases() []api.Lease {
	l := slices.Clone(m.leases)
	slices.SortFunc(l, func(a, b api.Lease) int {
		if a.Job != b.Job {
			return strings.Compare(a.Job, b.Job)
		}
		return a.Worker - b.Worker
	})
	return l
}

// drawn: what is asked next.
func drawn(d *draw, now *int, jobs, workers, steps int) string {
	*now += []int{0, 0, 0, 1, d.below(steps), -1}[d.below(6)]
	job, worker := fmt.Sprint("j", d.below(jobs)), 1+d.below(workers)
	switch n := d.below(20); {
	case n < 2:
		return fmt.Sprint("add ", job)
	case n < 4:
		return fmt.Sprint("tick ", *now)
	case n < 12:
		return fmt.Sprint("grant ", job, " ", worker, " ", *now)
	case n < 15:
		return fmt.Sprint("beat ", job, " ", worker, " ", *now)
	case n < 16:
		return fmt.Sprint("good ", job, " ", worker, " ", *now)
	}
	return fmt.Sprint("bad ", job, " ", worker, " ", *now)
}

func TestM2M3M4DrawnAgainstModel(t *testing.T) {
	d := draw(1)
	seen := map[string]int{}
	for range 500 {
		terms := api.Terms{Last: 1 + d.below(6), Tries: 1 + d.below(10), Twins: 1 + d.below(5)}
		jobs, workers, steps := 1+d.below(8), 1+d.below(8), 1+d.below(9)
		b, m := newBook(t, terms.Last, terms.Tries, terms.Twins), newModel(terms)
		now := 1
		var asked []string
		for range 200 {
			next := drawn(&d, &now, jobs, workers, steps)
			asked = append(asked, next)
			for _, ask := range []string{next, "leases", fmt.Sprint("state j", d.below(jobs))} {
				got, want := say(b, ask), say(m, ask)
				if got != want {
					t.Fatalf("%v: %s: %s: %q, must be %q", terms, strings.Join(asked, "; "), ask, got, want)
				}
				what, _, _ := strings.Cut(ask, " ")
				first, _, _ := strings.Cut(want, " ")
				seen[what+" "+first]++
			}
			now = m.now
		}
	}
	for _, want := range []string{"grant 0", "grant 2", "grant 4", "grant 5", "grant 6", "beat 0", "beat 5", "bad 0", "good 0", "state waiting", "state leased", "state done", "state lost"} {
		if seen[want] < 100 {
			t.Errorf("%s came %d times: that is no test", want, seen[want])
		}
	}
}

// TestM5Drawn: no job is lent to more than it may be, nor more often; what is done stays done; what somebody has neither waits nor is lost.
func TestM5Drawn(t *testing.T) {
	d := draw(2)
	for range 300 {
		terms := api.Terms{Last: 1 + d.below(6), Tries: 1 + d.below(10), Twins: 1 + d.below(5)}
		b := newBook(t, terms.Last, terms.Tries, terms.Twins, "j0", "j1", "j2")
		var was [3]int
		now, latest := 1, 1
		for range 300 {
			asked := drawn(&d, &now, 3, 7, 4)
			say(b, asked)
			latest = max(latest, now)
			now = latest
			for i := range was {
				job := fmt.Sprint("j", i)
				state, tries := b.State(job)
				having := 0
				for _, l := range b.Leases() {
					if l.Job == job {
						having++
					}
				}
				if having > terms.Twins || tries > terms.Tries || (having > 0) != (state == api.JobLeased) || was[i] == api.JobDone && state != api.JobDone || was[i] == api.JobLost && state != api.JobLost || state == api.JobWaiting && tries == terms.Tries {
					t.Fatalf("%v: %s: %s was %d, is %d, tried %d times, and %d have it", terms, asked, job, was[i], state, tries, having)
				}
				was[i] = state
			}
		}
	}
}
