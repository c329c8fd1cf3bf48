package build

import (
	"foundry/api"
	"foundry/eval"
	"foundry/graph"
	"foundry/tree"
)

// builder of targets, one after the other, each behind those that it needs.
type builder struct {
	files   []api.File
	fuel    int
	targets map[string]api.Target // by their names
	made    map[string][]api.File // by the names of the targets that made it
}

func newBuilder(files []api.File, targets []api.Target, fuel int) *builder {
	b := &builder{files: files, fuel: fuel, targets: map[string]api.Target{}, made: map[string][]api.File{}}
	for _, t := range targets {
		b.targets[t.Name] = t
	}
	return b
}

// needed: the targets of the source at a path, which can be built, and the order in which those are that one needs.
func needed(files []api.File, path, name string, fuel int) ([]api.Target, []string, api.Errno) {
	targets, _, _, e := eval.Run(files, path, fuel)
	if e != api.OK {
		return nil, nil, e
	}
	if _, e := graph.Check(targets, files); e != api.OK {
		return nil, nil, e
	}
	cone, e := graph.Cone(targets, name)
	return targets, cone, e
}

// madeFor a target: what its own needs made.
func (b *builder) madeFor(t api.Target) ([]api.File, api.Errno) {
	var l []api.File
	for _, need := range t.Needs {
		both, e := tree.Over(l, b.made[need])
		if e != api.OK {
			return nil, e
		}
		l = both
	}
	return l, api.OK
}

// build a target whose needs are built: how it ended.
func (b *builder) build(name string) (int, api.Errno) {
	t := b.targets[name]
	made, e := b.madeFor(t)
	if e != api.OK {
		return 0, e
	}
	a, in, e := Plan(b.files, t, made, b.fuel)
	if e != api.OK {
		return 0, e
	}
	result, outs, e := Do(in, a)
	if e != api.OK {
		return 0, e
	}
	b.made[name] = outs
	return result.Code, api.OK
}
