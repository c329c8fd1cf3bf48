package graph_test

import (
	"fmt"
	"reflect"
	"slices"
	"strings"

	"foundry/api"
)

// draw numbers that are the same each time.
type draw uint64

func (d *draw) below(n int) int {
	*d = *d*6364136223846793005 + 1442695040888963407
	return int(uint64(*d) >> 33 % uint64(n))
}

// same tells whether two lists are, an empty one being nil or not.
func same[T any](a, b []T) bool {
	return len(a) == 0 && len(b) == 0 || reflect.DeepEqual(a, b)
}

func words(s string) []string { return strings.Fields(s) }

// targets of a text: `a: b c; b` is an `a` that needs `b` and `c`, and a `b` that needs nothing.
func targets(s string) []api.Target {
	var l []api.Target
	for _, part := range strings.Split(s, ";") {
		name, needs, _ := strings.Cut(strings.TrimSpace(part), ":")
		if name != "" || needs != "" {
			l = append(l, api.Target{Name: name, Needs: words(needs)})
		}
	}
	return l
}

// numbered targets, from the number 0 on, each needing the one ahead of it.
func numbered(n int) []api.Target {
	var l []api.Target
	for i := range n {
		t := api.Target{Name: fmt.Sprintf("t%03d", i)}
		if i > 0 {
			t.Needs = []string{l[i-1].Name}
		}
		l = append(l, t)
	}
	return l
}

// drawn targets: all their needs are there; with rising, none needs one behind it in the list, so that there is no circle.
func drawn(d *draw, most int, rising bool) []api.Target {
	var names []string
	for i := range 1 + d.below(most) {
		names = append(names, fmt.Sprintf("%c%d", 'a'+byte(d.below(26)), i))
	}
	var l []api.Target
	for i, name := range names {
		t := api.Target{Name: name}
		may := len(names)
		if rising {
			may = i
		}
		for range d.below(4) {
			if may > 0 && d.below(3) > 0 {
				t.Needs = append(t.Needs, names[d.below(may)])
			}
		}
		l = append(l, t)
	}
	for i := len(l) - 1; i > 0; i-- {
		j := d.below(i + 1)
		l[i], l[j] = l[j], l[i]
	}
	return l
}

// model of targets whose names are right: who needs whom, itself or by others.
type model struct {
	names []string
	needs map[string]map[string]bool
	all   map[string]map[string]bool
}

func newModel(l []api.Target) model {
	m := model{needs: map[string]map[string]bool{}, all: map[string]map[string]bool{}}
	for _, t := range l {
		m.names = append(m.names, t.Name)
		m.needs[t.Name], m.all[t.Name] = map[string]bool{}, map[string]bool{}
		for _, need := range t.Needs {
			m.needs[t.Name][need], m.all[t.Name][need] = true, true
		}
	}
	slices.Sort(m.names)
	for _, by := range m.names {
		for _, a := range m.names {
			for _, b := range m.names {
				m.all[a][b] = m.all[a][b] || m.all[a][by] && m.all[by][b]
			}
		}
	}
	return m
}

// isCircular tells whether a target needs one of a circle.
func (m model) isCircular(name string) bool {
	return slices.ContainsFunc(m.names, func(x string) bool { return m.all[x][x] && (x == name || m.all[name][x]) })
}

// hasCircle tells whether there is one.
func (m model) hasCircle() bool { return slices.ContainsFunc(m.names, m.isCircular) }

// order of some names that rise: one after the other the least one all of whose needs are there.
func (m model) order(names []string) []string {
	var l []string
	for len(l) < len(names) {
		i := slices.IndexFunc(names, func(x string) bool {
			if slices.Contains(l, x) {
				return false
			}
			for need := range m.needs[x] {
				if !slices.Contains(l, need) {
					return false
				}
			}
			return true
		})
		if i < 0 {
			return nil
		}
		l = append(l, names[i])
	}
	return l
}

func (m model) cone(name string) []string {
	var part []string
	for _, x := range m.names {
		if x == name || m.all[name][x] {
			part = append(part, x)
		}
	}
	return m.order(part)
}

func (m model) users(name string) []string {
	var l []string
	for _, x := range m.names {
		if m.all[x][name] {
			l = append(l, x)
		}
	}
	return l
}

// depth of a target that needs none of a circle.
func (m model) depth(name string) int {
	n := 0
	for _, x := range m.cone(name) {
		if m.needs[name][x] {
			n = max(n, 1+m.depth(x))
		}
	}
	return n
}

// goesRound tells whether names are a circle.
func (m model) goesRound(l []string) bool {
	for i, name := range l {
		if slices.Contains(l[:i], name) || !m.needs[name][l[(i+1)%len(l)]] {
			return false
		}
	}
	return len(l) > 0
}
