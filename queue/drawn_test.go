package queue_test

import (
	"fmt"
	"slices"
	"strings"
	"testing"

	"foundry/api"
	"foundry/queue"
)

// draw numbers that are the same each time.
type draw uint64

func (d *draw) below(n int) int {
	*d = *d*6364136223846793005 + 1442695040888963407
	return int(uint64(*d) >> 33 % uint64(n))
}

// model of a queue: all jobs in one list, as they came; a turn begins as soon as its tenant comes to the front.
type model struct {
	quantum int
	jobs    []api.Job
	ring    []int
	credit  map[int]int
	front   int // whose turn it is; 0: nobody's
}

func (m *model) of(tenant int) []api.Job {
	var l []api.Job
	for _, j := range m.jobs {
		if j.Tenant == tenant {
			l = append(l, j)
		}
	}
	return l
}

// settle who has jobs, and whose turn it is.
func (m *model) settle() {
	var ring []int
	for _, tenant := range m.ring {
		if len(m.of(tenant)) > 0 {
			ring = append(ring, tenant)
			continue
		}
		delete(m.credit, tenant)
		if tenant == m.front {
			m.front = 0
		}
	}
	for _, j := range m.jobs {
		if !slices.Contains(ring, j.Tenant) {
			ring = append(ring, j.Tenant)
		}
	}
	m.ring = ring
	if m.front == 0 && len(ring) > 0 {
		m.front = ring[0]
		m.credit[m.front] += m.quantum
	}
}

func (m *model) put(j api.Job) api.Errno {
	if slices.ContainsFunc(m.jobs, func(k api.Job) bool { return k.Name == j.Name }) {
		return api.ErrTwice
	}
	if len(m.jobs) == api.MaxJobs {
		return api.ErrMany
	}
	m.jobs = append(m.jobs, j)
	m.settle()
	return api.OK
}

func (m *model) drop(name string) bool {
	was := len(m.jobs)
	m.jobs = slices.DeleteFunc(m.jobs, func(j api.Job) bool { return j.Name == name })
	m.settle()
	return len(m.jobs) < was
}

func (m *model) next() (api.Job, bool) {
	if len(m.jobs) == 0 {
		return api.Job{}, false
	}
	j := m.of(m.front)[0]
	for j.Cost > m.credit[m.front] {
		m.ring = append(m.ring[1:], m.front)
		m.front = 0
		m.settle()
		j = m.of(m.front)[0]
	}
	m.credit[m.front] -= j.Cost
	m.drop(j.Name)
	return j, true
}

func (m *model) waiting(tenant int) []string {
	var names []string
	for _, j := range m.of(tenant) {
		names = append(names, j.Name)
	}
	return names
}

// step does one thing with a queue and its model, and tells what both say.
func step(d *draw, q *queue.Queue, m *model, tenants, names, dearest, puts int) (string, string) {
	name := fmt.Sprint("n", d.below(names))
	switch n := d.below(10); {
	case n < puts:
		j := api.Job{Tenant: 1 + d.below(tenants), Name: name, Cost: 1 + d.below(dearest)}
		return fmt.Sprint("put ", j, q.Put(j)), fmt.Sprint("put ", j, m.put(j))
	case n < 9:
		j, there := q.Next()
		k, is := m.next()
		return fmt.Sprint("next ", j, there), fmt.Sprint("next ", k, is)
	}
	return fmt.Sprint("drop ", name, q.Drop(name)), fmt.Sprint("drop ", name, m.drop(name))
}

func TestL1L2DrawnAgainstModel(t *testing.T) {
	d := draw(1)
	for i := range 300 {
		quantum := []int{1, 2, 5, 10, 100, api.MaxCost}[d.below(6)]
		tenants := []int{1, 2, 3, 20}[d.below(4)]
		names := []int{5, 20, 100, 1000}[d.below(4)]
		dearest := []int{1, 3, 12, 50, api.MaxCost}[d.below(5)]
		q, m := newQueue(t, quantum), &model{quantum: quantum, credit: map[int]int{}}
		var said []string
		for range 300 {
			got, want := step(&d, q, m, tenants, names, dearest, 4+i%5)
			said = append(said, want)
			if got != want {
				t.Fatalf("quantum %d: %s: it says %s", quantum, strings.Join(said, "; "), got)
			}
			tenant := d.below(tenants + 2)
			if got := q.Waiting(tenant); !slices.Equal(got, m.waiting(tenant)) {
				t.Fatalf("quantum %d: %s: Waiting(%d): %q", quantum, strings.Join(said, "; "), tenant, got)
			}
		}
	}
}

// TestL3NoneGetsFarAhead: each of some tenants always has two jobs or more that wait.
func TestL3NoneGetsFarAhead(t *testing.T) {
	d := draw(2)
	for range 200 {
		tenants := 2 + d.below(4)
		quantum := []int{1, 3, 10, 100, api.MaxCost}[d.below(5)]
		dearest := []int{1, 2, 10, 99, api.MaxCost}[d.below(5)]
		q := newQueue(t, quantum)
		put, got, told := make([]int, tenants+1), make([]int, tenants+1), make([]int, tenants+1)
		costs := make([]int, tenants+1)
		more := func(tenant int) {
			// Of each tenant most jobs cost about the same, which is not what others' cost.
			cost := 1 + costs[tenant]
			if d.below(4) == 0 {
				cost = 1 + d.below(dearest)
			}
			if e := q.Put(api.Job{Tenant: tenant, Name: fmt.Sprintf("t%d-%d", tenant, put[tenant]), Cost: cost}); e != api.OK {
				t.Fatalf("Put: %d", e)
			}
			put[tenant]++
		}
		for tenant := 1; tenant <= tenants; tenant++ {
			costs[tenant] = d.below(dearest)
			more(tenant)
			more(tenant)
		}
		for range 500 {
			j, there := q.Next()
			// Of one tenant they come in their order, each once.
			if !there || j.Name != fmt.Sprintf("t%d-%d", j.Tenant, told[j.Tenant]) {
				t.Fatalf("Next: %v %v, and %d came", j, there, told[j.Tenant])
			}
			told[j.Tenant]++
			got[j.Tenant] += j.Cost
			more(j.Tenant)
			if least, most := slices.Min(got[1:]), slices.Max(got[1:]); most-least > quantum+dearest {
				t.Fatalf("quantum %d, the dearest job %d: they got %v", quantum, dearest, got[1:])
			}
		}
	}
}
