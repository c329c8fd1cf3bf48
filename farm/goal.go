package farm

import (
	"slices"

	"foundry/api"
	"foundry/eval"
	"foundry/graph"
	"foundry/lease"
)

// goal is what a farm is to build.
type goal struct {
	files   []api.File
	fuel    int
	terms   api.Terms
	cone    []string              // names of targets, each behind those that it needs
	targets map[string]api.Target // those of the cone, by their names
}

// goalOf an order, with the errors that Build has ahead of any target's being planned.
func goalOf(o api.Order) (goal, api.Errno) {
	targets, _, _, e := eval.Run(o.Files, o.Path, o.Fuel)
	if e != api.OK {
		return goal{}, e
	}
	if _, e := graph.Check(targets, o.Files); e != api.OK {
		return goal{}, e
	}
	cone, e := graph.Cone(targets, o.Name)
	if e != api.OK {
		return goal{}, e
	}
	if _, e := lease.New(o.Terms); e != api.OK {
		return goal{}, e
	}
	g := goal{slices.Clone(o.Files), o.Fuel, o.Terms, cone, map[string]api.Target{}}
	for _, t := range targets {
		if slices.Contains(cone, t.Name) {
			g.targets[t.Name] = t
		}
	}
	return g, api.OK
}

// newBook in which the cone's targets are the jobs.
func (g goal) newBook() *lease.Book {
	b, _ := lease.New(g.terms)
	for _, name := range g.cone {
		b.Add(name)
	}
	return b
}
