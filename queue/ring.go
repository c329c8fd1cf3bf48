package queue

import (
	"slices"

	"foundry/api"
	"foundry/wire"
)

// tenant that has jobs, as they wait, and how much it may still get.
type tenant struct {
	number, credit int
	jobs           []api.Job
}

func jobError(j api.Job) api.Errno {
	switch {
	case j.Tenant < 1, j.Tenant > api.MaxTenants, j.Cost < 1, j.Cost > api.MaxCost:
		return api.ErrRange
	case !wire.IsName(j.Name):
		return api.ErrForm
	}
	return api.OK
}

// isNone tells whether New did not make this queue: in such a one nothing may wait, as no credit would ever grow.
func (q *Queue) isNone() bool { return q == nil || q.quantum == 0 }

func (q *Queue) size() int {
	n := 0
	for _, t := range q.ring {
		n += len(t.jobs)
	}
	return n
}

// placeOf a tenant in the ring; below 0, if it has none.
func (q *Queue) placeOf(number int) int {
	return slices.IndexFunc(q.ring, func(t *tenant) bool { return t.number == number })
}

// find a job: its tenant's place in the ring, and its own among its jobs; below 0, if it does not wait.
func (q *Queue) find(name string) (int, int) {
	for place, t := range q.ring {
		if i := slices.IndexFunc(t.jobs, func(j api.Job) bool { return j.Name == name }); i >= 0 {
			return place, i
		}
	}
	return -1, -1
}

func (q *Queue) add(j api.Job) {
	place := q.placeOf(j.Tenant)
	if place < 0 {
		place = len(q.ring)
		q.ring = append(q.ring, &tenant{number: j.Tenant})
	}
	q.ring[place].jobs = append(q.ring[place].jobs, j)
}

// remove a job; with its last one its tenant leaves the ring.
func (q *Queue) remove(place, i int) {
	t := q.ring[place]
	t.jobs = slices.Delete(t.jobs, i, i+1)
	if len(t.jobs) > 0 {
		return
	}
	q.ring = slices.Delete(q.ring, place, place+1)
	if place == 0 {
		q.begun = false
	}
}

// mayGo tells whether the first job of the one whose turn it is costs no more than its credit; its turn begins, if it has not yet.
func (q *Queue) mayGo() bool {
	first := q.ring[0]
	if !q.begun {
		first.credit += q.quantum
		q.begun = true
	}
	return first.jobs[0].Cost <= first.credit
}

// turnOver: the first one goes to the end of the ring.
func (q *Queue) turnOver() {
	first := q.ring[0]
	copy(q.ring, q.ring[1:])
	q.ring[len(q.ring)-1] = first
	q.begun = false
}
