package graph

import (
	"container/heap"

	"foundry/api"
)

// ready names, of which nothing that they need is still to come: a heap, the least one first.
type ready []string

func (r ready) Len() int { return len(r) }

func (r ready) Less(i, j int) bool { return r[i] < r[j] }

func (r ready) Swap(i, j int) { r[i], r[j] = r[j], r[i] }

func (r *ready) Push(x any) { *r = append(*r, x.(string)) }

func (r *ready) Pop() any {
	last := len(*r) - 1
	name := (*r)[last]
	*r = (*r)[:last]
	return name
}

// order of all names, each behind those that it needs. In a circle nobody is ever ready.
func (n links) order() ([]string, api.Errno) {
	users := n.turned()
	awaited := map[string]int{}
	var next ready
	for name, needs := range n {
		awaited[name] = len(needs)
		if len(needs) == 0 {
			heap.Push(&next, name)
		}
	}
	var order []string
	for next.Len() > 0 {
		name := heap.Pop(&next).(string)
		order = append(order, name)
		for _, user := range users[name] {
			awaited[user]--
			if awaited[user] == 0 {
				heap.Push(&next, user)
			}
		}
	}
	if len(order) < len(n) {
		return nil, api.ErrCircle
	}
	return order, api.OK
}
