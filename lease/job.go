package lease

import (
	"maps"
	"slices"

	"foundry/api"
)

// mostTries and mostTwins are the greatest numbers that terms may have.
const (
	mostTries = 10
	mostTwins = 5
)

// job that is known. Whether it waits, is leased or is lost is told by its leases and tries, so it is not kept beside them.
type job struct {
	done  bool
	tries int
	till  map[int]int // until when its leases are, by the workers who have them
}

// lend it to a worker, till a time.
func (j *job) lend(worker, till int) {
	if j.till == nil {
		j.till = map[int]int{}
	}
	j.till[worker] = till
}

// isNone tells whether there is no book, as New makes it: nothing is known there.
func (b *Book) isNone() bool { return b == nil || b.jobs == nil }

// find a job; nil, if it is not known.
func (b *Book) find(name string) *job {
	if b.isNone() {
		return nil
	}
	return b.jobs[name]
}

// tell the time, and the worker who is there, if one is: the jobs of which the last lease is over by that, rising.
func (b *Book) tell(now int, workers ...int) ([]string, api.Errno) {
	isNobody := func(worker int) bool { return worker < 1 || worker > api.MaxWorkers }
	if now < 0 || now > api.MaxTime || slices.ContainsFunc(workers, isNobody) {
		return nil, api.ErrRange
	}
	if b.isNone() {
		return nil, api.OK
	}
	if now < b.now {
		return nil, api.ErrState
	}
	b.now = now
	return b.end(), api.OK
}

// end the leases that are over: the jobs of which none is left by that, rising.
func (b *Book) end() []string {
	isOver := func(_, till int) bool { return till < b.now }
	var free []string
	for name, j := range b.jobs {
		had := len(j.till)
		maps.DeleteFunc(j.till, isOver)
		if had > 0 && len(j.till) == 0 {
			free = append(free, name)
		}
	}
	slices.Sort(free)
	return free
}

// state of a job that is known.
func (b *Book) state(j *job) int {
	switch {
	case j.done:
		return api.JobDone
	case len(j.till) > 0:
		return api.JobLeased
	case j.tries >= b.terms.Tries:
		return api.JobLost
	}
	return api.JobWaiting
}

// refusal tells why a worker may not have a lease of a job.
func (b *Book) refusal(j *job, worker int) api.Errno {
	if state := b.state(j); state == api.JobDone || state == api.JobLost {
		return api.ErrState
	}
	if _, has := j.till[worker]; has {
		return api.ErrTwice
	}
	if len(j.till) >= b.terms.Twins || j.tries >= b.terms.Tries {
		return api.ErrMany
	}
	return api.OK
}

// leased is the job of which a worker has a lease, as it tells the time.
func (b *Book) leased(name string, worker, now int) (*job, api.Errno) {
	if _, e := b.tell(now, worker); e != api.OK {
		return nil, e
	}
	j := b.find(name)
	if j == nil {
		return nil, api.ErrNone
	}
	if _, has := j.till[worker]; !has {
		return nil, api.ErrNone
	}
	return j, api.OK
}
