package eval

import (
	"maps"
	"slices"
	"strings"

	"foundry/api"
	"foundry/syntax"
)

// runner does sources; it gives up by a panic with the first trouble that it meets, an api.Errno.
type runner struct {
	sources  map[string]*source
	builtIns scope
	signs    map[string]func(a, b value) value
	fuel     int // what is left
	targets  []api.Target
}

// source at a path; its names are there when it was done.
type source struct {
	text  string
	names scope
	begun bool
}

func newRunner(files []api.File, fuel int) *runner {
	r := &runner{sources: map[string]*source{}, fuel: fuel}
	for _, f := range files {
		// Paths come to be values, which would keep the caller's memory.
		r.sources[strings.Clone(f.Path)] = &source{text: f.Text}
	}
	r.builtIns = r.newBuiltIns()
	r.signs = r.newSigns()
	return r
}

func giveUpIf(wrong bool, e api.Errno) {
	if wrong {
		panic(e)
	}
}

// trouble that is met as something is done: OK, if there is none.
func trouble(do func()) (e api.Errno) {
	defer func() {
		if met, is := recover().(api.Errno); is {
			e = met
		}
	}()
	do()
	return api.OK
}

func (r *runner) burn() {
	giveUpIf(r.fuel == 0, api.ErrFuel)
	r.fuel--
}

// source at a path is done, if it was not yet: the names that it has.
func (r *runner) source(path string) scope {
	s, there := r.sources[path]
	giveUpIf(!there, api.ErrNone)
	giveUpIf(s.begun && s.names == nil, api.ErrCircle)
	if !s.begun {
		s.begun = true
		s.names = r.done(s.text)
	}
	return s.names
}

// done is a source: the names that it has then.
func (r *runner) done(s string) scope {
	l, f := syntax.Parse(s)
	giveUpIf(f.Err != api.OK, f.Err)
	names := scope{}
	w := worker{runner: r, own: names, home: names}
	w.statements(l)
	return names
}

// globals are names, rising, with how what they have is written; what cannot be written is left out.
func globals(names scope) []api.Global {
	var l []api.Global
	for _, name := range slices.Sorted(maps.Keys(names)) {
		var s string
		e := trouble(func() { s = written(names[name], func() {}) })
		if e == api.OK {
			l = append(l, api.Global{Name: name, Text: s})
		}
	}
	return l
}
