package eval

import "foundry/api"

// worker does the statements of a source, or of a function.
type worker struct {
	*runner
	own  scope // where names are set: those of the function at work, or else of the source
	home scope // those of the source
}

// statements are done up to a `return`: what that gives, or nil.
func (w *worker) statements(l []api.Stmt) value {
	for _, s := range l {
		if given := w.statement(s); given != nil {
			return given
		}
	}
	return nil
}

// statement is done: what a `return` in it gives, or nil.
func (w *worker) statement(s api.Stmt) value {
	w.burn()
	switch s.Kind {
	case api.StmtReturn:
		return w.reckon(s.Expr)
	case api.StmtSet:
		w.own[s.Text] = w.reckon(s.Expr)
	case api.StmtLoad:
		w.load(s.Text, s.Names)
	case api.StmtExpr:
		w.reckon(s.Expr)
	case api.StmtDef:
		w.own[s.Text] = &function{names: s.Names, body: s.Body, home: w.home}
	case api.StmtIf:
		if isTrue(w.reckon(s.Expr)) {
			return w.statements(s.Body)
		}
		return w.statements(s.Else)
	case api.StmtFor:
		return w.loop(s)
	}
	return nil
}

func (w *worker) load(path string, names []string) {
	there := w.source(path)
	for _, name := range names {
		v, has := there[name]
		giveUpIf(!has, api.ErrNone)
		w.own[name] = v
	}
}

func (w *worker) loop(s api.Stmt) value {
	for _, thing := range things(w.reckon(s.Expr)) {
		w.turn(s.Text, thing)
		if given := w.statements(s.Body); given != nil {
			return given
		}
	}
	return nil
}

// turn of a `for` of either kind begins.
func (w *worker) turn(name string, thing value) {
	w.burn()
	w.own[name] = thing
}
