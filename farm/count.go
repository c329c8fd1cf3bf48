package farm

import (
	"slices"

	"foundry/api"
	"foundry/log"
	"foundry/wire"
)

// begin anew, with what a log tells: nobody has anything, and nobody told anything.
func (f *Farm) begin(s string) {
	f.book = f.goal.newBook()
	f.done, f.noted = map[string]outcome{}, map[string]api.Errno{}
	f.has, f.told = map[int]task{}, map[int]telling{}
	f.log = ""
	entries, _ := log.Read(s)
	for _, entry := range entries {
		t, right := f.entered(entry)
		if !right {
			return
		}
		f.count(t)
	}
}

// entered is what an entry tells, and whether it tells what comes of doing it now. Two things are never packed alike, so an entry that is the same has the same Key and Result.
func (f *Farm) entered(entry string) (telling, bool) {
	parts, e := wire.ReadTexts(entry)
	if e != api.OK || len(parts) == 0 || !f.isReady(parts[0]) {
		return telling{}, false
	}
	doing, e := f.taskOf(parts[0])
	if e != api.OK {
		return telling{}, false
	}
	t := doing.do()
	return t, t.e == api.OK && t.entry == entry
}

// count what was told.
func (f *Farm) count(t telling) {
	if t.e != api.OK {
		f.noted[t.name] = t.e
		return
	}
	f.log, _ = log.Append(f.log, t.entry)
	f.done[t.name] = t.end
}

// isReady tells whether a target is: what is none of the cone never is.
func (f *Farm) isReady(name string) bool {
	t, known := f.goal.targets[name]
	_, isDone := f.done[name]
	if !known || isDone || f.noted[name] != api.OK {
		return false
	}
	isMissing := func(need string) bool {
		end, isDone := f.done[need]
		return !isDone || end.code != 0
	}
	return !slices.ContainsFunc(t.Needs, isMissing)
}

// lack tells why a target is not done.
func (f *Farm) lack(name string) api.Errno {
	if e := f.noted[name]; e != api.OK {
		return e
	}
	if _, isDone := f.done[name]; isDone {
		return api.OK
	}
	// It may be built by a farm that begins anew.
	if state, _ := f.book.State(name); state == api.JobLost {
		return api.ErrFuel
	}
	return api.ErrNone
}
