package eval

import (
	"slices"
	"strings"

	"foundry/api"
)

// function is one of a `def`, with its names and statements, or a built-in one.
type function struct {
	builtIn func(h handed) value
	names   []string
	body    []api.Stmt
	home    scope // names of the source in which it stands
	atWork  bool
}

// handed in are values, the last ones by names.
type handed struct {
	values []value
	names  []string
}

// comes: what a function comes to.
func (r *runner) comes(f *function, h handed) value {
	if f.builtIn != nil {
		return f.builtIn(h)
	}
	w := worker{runner: r, own: f.own(h), home: f.home}
	giveUpIf(f.atWork, api.ErrCircle)
	f.atWork = true
	given := w.statements(f.body)
	f.atWork = false
	if given == nil {
		return none{}
	}
	return given
}

// own names of a function, with what is handed in.
func (f *function) own(h handed) scope {
	unnamed := len(h.values) - len(h.names)
	giveUpIf(unnamed > len(f.names), api.ErrMany)
	own := scope{}
	for i, v := range h.values[:unnamed] {
		own[f.names[i]] = v
	}
	for i, name := range h.names {
		giveUpIf(!slices.Contains(f.names, name), api.ErrNone)
		_, there := own[name]
		giveUpIf(there, api.ErrTwice)
		own[name] = h.values[unnamed+i]
	}
	giveUpIf(len(own) < len(f.names), api.ErrMany)
	return own
}

// plain built-in function: it takes so many values without names.
func plain(many int, does func(l []value) value) *function {
	return &function{builtIn: func(h handed) value {
		giveUpIf(len(h.names) > 0, api.ErrType)
		giveUpIf(len(h.values) != many, api.ErrMany)
		return does(h.values)
	}}
}

func (r *runner) newBuiltIns() scope {
	return scope{
		"len":    plain(1, func(l []value) value { return length(l[0]) }),
		"str":    plain(1, func(l []value) value { return text(written(l[0], r.burn)) }),
		"range":  plain(1, func(l []value) value { return numbersBelow(asInt(l[0])) }),
		"sorted": plain(1, func(l []value) value { return sorted(asList(l[0])) }),
		"join":   plain(2, func(l []value) value { return join(asText(l[0]), asTexts(l[1])) }),
		"glob":   plain(1, func(l []value) value { return listOfTexts(r.glob(asTexts(l[0]))) }),
		"fail":   plain(1, func(l []value) value { return fail(asText(l[0])) }),
		"rule":   &function{builtIn: r.rule},
	}
}

func length(v value) number {
	switch v := v.(type) {
	case text:
		return number(len(v))
	case *dictionary:
		return number(len(v.keys))
	}
	return number(len(asList(v)))
}

func numbersBelow(n int) list {
	giveUpIf(n > api.MaxItems, api.ErrMany)
	var l list
	for i := range n {
		l = append(l, number(i))
	}
	return l
}

func sorted(l list) list {
	for _, v := range l {
		// All must be of the first one's type, and that must be one that can be compared.
		compare(l[0], v)
	}
	return slices.SortedFunc(slices.Values(l), compare)
}

// join texts with one between them, if that is not too long.
func join(between string, texts []string) text {
	size := len(between) * max(0, len(texts)-1)
	for _, s := range texts {
		size += len(s)
	}
	giveUpIf(size > api.MaxText, api.ErrMany)
	return text(strings.Join(texts, between))
}

func fail(string) value { panic(api.ErrFail) }
