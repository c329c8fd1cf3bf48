package eval

import "foundry/api"

// reckon what an expression comes to.
func (w *worker) reckon(e api.Expr) value {
	w.burn()
	switch e.Kind {
	case api.ExprTrue:
		return truth(true)
	case api.ExprFalse:
		return truth(false)
	case api.ExprInt:
		return number(e.Number)
	case api.ExprText:
		return text(e.Text)
	case api.ExprName:
		return w.named(e.Text)
	case api.ExprList:
		return w.list(e.Kids)
	case api.ExprDict:
		return w.dictionary(e.Kids)
	case api.ExprEach:
		return w.each(e)
	case api.ExprCall:
		return w.call(e)
	case api.ExprIndex:
		of := w.reckon(e.Kids[0])
		return index(of, w.reckon(e.Kids[1]))
	case api.ExprNot:
		return truth(!isTrue(w.reckon(e.Kids[0])))
	case api.ExprMinus:
		return number(-asInt(w.reckon(e.Kids[0])))
	case api.ExprBinary:
		return w.binary(e)
	}
	return none{}
}

func (w *worker) named(name string) value {
	for _, names := range []scope{w.own, w.home, w.builtIns} {
		if v, has := names[name]; has {
			return v
		}
	}
	panic(api.ErrNone)
}

func (w *worker) list(kids []api.Expr) value {
	var l list
	for _, kid := range kids {
		l = newList(append(l, w.reckon(kid)))
	}
	return l
}

// dictionary of keys, each with what it has behind it. A key is looked at before that is reckoned.
func (w *worker) dictionary(kids []api.Expr) value {
	d := &dictionary{places: map[string]int{}}
	for i := 0; i < len(kids); i += 2 {
		d.add(asText(w.reckon(kids[i])))
		d.things = newList(append(d.things, w.reckon(kids[i+1])))
	}
	return d
}

func (w *worker) each(e api.Expr) value {
	var l list
	for _, thing := range things(w.reckon(e.Kids[1])) {
		w.turn(e.Text, thing)
		if len(e.Kids) == 2 || isTrue(w.reckon(e.Kids[2])) {
			l = newList(append(l, w.reckon(e.Kids[0])))
		}
	}
	return l
}

func (w *worker) call(e api.Expr) value {
	called := w.reckon(e.Kids[0])
	h := handed{names: e.Names}
	for _, kid := range e.Kids[1:] {
		h.values = append(h.values, w.reckon(kid))
	}
	f, is := called.(*function)
	giveUpIf(!is, api.ErrType)
	return w.comes(f, h)
}

// binary is what a sign makes of two; the second one is not reckoned, if the first one decides.
func (w *worker) binary(e api.Expr) value {
	first := w.reckon(e.Kids[0])
	if e.Text == "or" && isTrue(first) || e.Text == "and" && !isTrue(first) {
		return first
	}
	return w.signs[e.Text](first, w.reckon(e.Kids[1]))
}

// index: what a list, a text or a dictionary has at a place.
func index(of, at value) value {
	switch of := of.(type) {
	case text:
		return text([]byte{of[place(asInt(at), len(of))]})
	case *dictionary:
		i, there := of.places[asText(at)]
		giveUpIf(!there, api.ErrNone)
		return of.things[i]
	}
	l := asList(of)
	return l[place(asInt(at), len(l))]
}

// place of so many; below 0 it is counted from the end.
func place(i, many int) int {
	if i < 0 {
		i += many
	}
	giveUpIf(i < 0 || i >= many, api.ErrRange)
	return i
}
