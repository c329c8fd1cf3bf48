package farm

import "foundry/api"

// mostTime is how much time may go in one step.
const mostTime = 1000000

// tick: more time has gone.
func (f *Farm) tick(more int) api.Errno {
	if more < 0 || more > mostTime {
		return api.ErrRange
	}
	if _, e := f.book.Tick(f.now + more); e != api.OK {
		return e
	}
	f.now += more
	return api.OK
}

// reboot with a log of which so many bytes are lost.
func (f *Farm) reboot(lost int) api.Errno {
	if lost < 0 {
		return api.ErrRange
	}
	f.begin(f.log[:max(0, len(f.log)-lost)])
	return api.OK
}

// stepOf a worker.
func (f *Farm) stepOf(worker, kind int) api.Errno {
	doing, has := f.has[worker]
	switch kind {
	case api.EventAsk:
		if has {
			return api.ErrTwice
		}
		return f.ask(worker)
	case api.EventTwice:
		return f.tell(worker)
	}
	if !has && kind != api.EventCrash {
		return api.ErrNone
	}
	delete(f.has, worker)
	// What a worker does, and does not tell, changes nothing: it is as if it were not done.
	if kind != api.EventWork {
		return api.OK
	}
	f.told[worker] = doing.do()
	return f.tell(worker)
}

// ask for something to do.
func (f *Farm) ask(worker int) api.Errno {
	if _, e := f.Report(); e != api.ErrNone {
		return api.ErrState
	}
	for _, name := range f.goal.cone {
		if f.isReady(name) && f.book.Grant(name, worker, f.now) == api.OK {
			f.give(worker, name)
			return api.OK
		}
	}
	return api.ErrNone
}

// give a worker, who has a lease of a target, what is to be done for it.
func (f *Farm) give(worker int, name string) {
	doing, e := f.taskOf(name)
	if e != api.OK {
		f.book.Done(name, worker, f.now, false)
		f.count(telling{name: name, e: e})
		return
	}
	f.has[worker] = doing
}

// tell, perhaps again, what a worker told last: it counts if the worker has a lease of that target.
func (f *Farm) tell(worker int) api.Errno {
	t, is := f.told[worker]
	if !is {
		return api.ErrNone
	}
	if f.book.Done(t.name, worker, f.now, t.e == api.OK) == api.OK {
		f.count(t)
	}
	return api.OK
}
