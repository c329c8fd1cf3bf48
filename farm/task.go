package farm

import (
	"foundry/api"
	"foundry/build"
	"foundry/tree"
	"foundry/wire"
)

// task is what a worker has: a target's action, and the tree that this is given.
type task struct {
	name   string
	action api.Action
	in     []api.File
}

// outcome of an action: how it ended, and what it made.
type outcome struct {
	code int
	made []api.File
}

// telling is what is told of a task that was done: what came of it, and how that is entered in the log; or an error.
type telling struct {
	name  string
	end   outcome
	entry string
	e     api.Errno
}

// taskOf a target whose needs are done.
func (f *Farm) taskOf(name string) (task, api.Errno) {
	t := f.goal.targets[name]
	var made []api.File
	for _, need := range t.Needs {
		both, e := tree.Over(made, f.done[need].made)
		if e != api.OK {
			return task{}, e
		}
		made = both
	}
	a, in, e := build.Plan(f.goal.files, t, made, f.goal.fuel)
	return task{name, a, in}, e
}

// do a task.
func (t task) do() telling {
	result, made, e := build.Do(t.in, t.action)
	if e != api.OK {
		return telling{name: t.name, e: e}
	}
	key, _ := build.Key(t.action)
	packed, _ := wire.Result(result)
	entry, _ := wire.Texts([]string{t.name, key, packed})
	return telling{name: t.name, end: outcome{result.Code, made}, entry: entry}
}
