package build

import (
	"slices"

	"foundry/api"
	"foundry/tree"
	"foundry/wire"
)

// picked are those of some files whose paths are among these, and whether each of these is the path of one.
func picked(files []api.File, paths []string) ([]api.File, bool) {
	isOther := func(f api.File) bool { return !slices.Contains(paths, f.Path) }
	l := slices.DeleteFunc(slices.Clone(files), isOther)
	isMissing := func(path string) bool {
		return !slices.ContainsFunc(l, func(f api.File) bool { return f.Path == path })
	}
	return l, !slices.ContainsFunc(paths, isMissing)
}

// given is the tree that an action is given: files that are sources, and what was made over these.
func given(files []api.File, sources []string, made []api.File) ([]api.File, api.Errno) {
	for _, l := range [][]api.File{files, made} {
		if e := tree.Check(l); e != api.OK {
			return nil, e
		}
	}
	l, all := picked(files, sources)
	if !all {
		return nil, api.ErrNone
	}
	return tree.Over(l, made)
}

// actionOf a target that is given a tree. An out that is there twice stays so: such outs cannot rise, and are refused.
func actionOf(t api.Target, in []api.File, fuel int) (api.Action, api.Errno) {
	root, _ := tree.Root(in)
	a := api.Action{Command: slices.Clone(t.Command), Input: root, Outputs: slices.Sorted(slices.Values(t.Outs)), Fuel: fuel}
	if _, e := wire.Action(a); e != api.OK {
		return api.Action{}, e
	}
	return a, api.OK
}

// inputError tells what is wrong with an action and the tree on which it is to run.
func inputError(in []api.File, a api.Action) api.Errno {
	root, e := tree.Root(in)
	if e != api.OK {
		return e
	}
	if _, e := wire.Action(a); e != api.OK {
		return e
	}
	if a.Input != root {
		return api.ErrState
	}
	return api.OK
}
