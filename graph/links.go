package graph

import (
	"maps"
	"slices"

	"foundry/api"
	"foundry/wire"
)

// links from each name to others: to those that it needs, or, turned, to its users. One may be there twice.
type links map[string][]string

func isUnnamed(t api.Target) bool { return !wire.IsName(t.Name) }

// needsOf targets, if their names are right.
func needsOf(l []api.Target) (links, api.Errno) {
	if len(l) > api.MaxFiles {
		return nil, api.ErrMany
	}
	needs := links{}
	for _, t := range l {
		needs[t.Name] = t.Needs
	}
	isUnmet := func(t api.Target) bool { return slices.ContainsFunc(t.Needs, needs.lacks) }
	switch {
	case slices.ContainsFunc(l, isUnnamed):
		return nil, api.ErrForm
	case len(needs) < len(l):
		return nil, api.ErrTwice
	case slices.ContainsFunc(l, isUnmet):
		return nil, api.ErrNone
	}
	return needs, api.OK
}

// needsWith is needsOf targets among which there must be one with this name.
func needsWith(l []api.Target, name string) (links, api.Errno) {
	needs, e := needsOf(l)
	if e != api.OK {
		return nil, e
	}
	if needs.lacks(name) {
		return nil, api.ErrNone
	}
	return needs, api.OK
}

func (n links) lacks(name string) bool {
	_, there := n[name]
	return !there
}

// turned the other way round.
func (n links) turned() links {
	back := links{}
	for name, others := range n {
		for _, other := range others {
			back[other] = append(back[other], name)
		}
	}
	return back
}

// from these names on: their links, and those of all to which one comes.
func (n links) from(names ...string) links {
	part := links{}
	var walk func(name string)
	walk = func(name string) {
		if !part.lacks(name) {
			return
		}
		part[name] = n[name]
		for _, other := range n[name] {
			walk(other)
		}
	}
	for _, name := range names {
		walk(name)
	}
	return part
}

// circle: names, each with a link to the next one, the last one to the first one; none, if there is no circle.
func (n links) circle() []string {
	var path, found []string
	left := map[string]struct{}{} // these were walked through, and led to no circle
	var walk func(name string) bool
	walk = func(name string) bool {
		if i := slices.Index(path, name); i >= 0 {
			found = slices.Clone(path[i:])
			return true
		}
		if _, is := left[name]; is {
			return false
		}
		path = append(path, name)
		if slices.ContainsFunc(n[name], walk) {
			return true
		}
		path = path[:len(path)-1]
		left[name] = struct{}{}
		return false
	}
	// Sorted, so that of several circles the same one is found each time.
	for _, name := range slices.Sorted(maps.Keys(n)) {
		if walk(name) {
			break
		}
	}
	return found
}

// depths of names that come in an order in which each is behind those that it needs.
func (n links) depths(order []string) map[string]int {
	depths := map[string]int{}
	for _, name := range order {
		for _, need := range n[name] {
			depths[name] = max(depths[name], depths[need]+1)
		}
	}
	return depths
}
