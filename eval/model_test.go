package eval_test

import (
	"math/big"
	"regexp"
	"slices"
	"sort"
	"strings"

	"foundry/api"
	"foundry/syntax"
)

// What the document says, once more: values are Go's (nil, bool, *big.Int, string, []any, *pairs, *made), and each step answers its error.

type pairs struct {
	keys []string
	has  map[string]any
}

// made is a function: built in, by its name, or of a `def`.
type made struct {
	builtIn string
	def     api.Stmt
	in      map[string]any
	busy    bool
}

type model struct {
	files   map[string]string
	state   map[string]int // 1: it is being done, 2: it was done
	names   map[string]map[string]any
	fuel    int
	targets []api.Target
}

// where one is: the names of the source, and those of the function at work, if there is one.
type where struct{ source, function map[string]any }

func (w where) set(name string, v any) {
	if w.function != nil {
		w.function[name] = v
	} else {
		w.source[name] = v
	}
}

func modelRun(files []api.File, path string, fuel int) outcome {
	m := &model{files: map[string]string{}, state: map[string]int{}, names: map[string]map[string]any{}, fuel: fuel}
	for _, f := range files {
		m.files[f.Path] = f.Text
	}
	if e := m.load(path); e != api.OK {
		return outcome{err: e}
	}
	o := outcome{targets: m.targets, burnt: fuel - m.fuel}
	var names []string
	for name := range m.names[path] {
		names = append(names, name)
	}
	sort.Strings(names)
	for _, name := range names {
		m.fuel = 1 << 40
		if s, e := m.str(m.names[path][name]); e == api.OK {
			o.globals = append(o.globals, api.Global{Name: name, Text: s})
		}
	}
	return o
}

func (m *model) burn() api.Errno {
	if m.fuel--; m.fuel < 0 {
		return api.ErrFuel
	}
	return api.OK
}

func (m *model) load(path string) api.Errno {
	text, there := m.files[path]
	if !there {
		return api.ErrNone
	}
	if m.state[path] == 1 {
		return api.ErrCircle
	}
	if m.state[path] == 2 {
		return api.OK
	}
	l, f := syntax.Parse(text)
	if f.Err != api.OK {
		return f.Err
	}
	m.state[path] = 1
	m.names[path] = map[string]any{}
	_, _, e := m.all(l, where{source: m.names[path]})
	m.state[path] = 2
	return e
}

// all statements: what `return` gives, and whether there was one.
func (m *model) all(l []api.Stmt, w where) (any, bool, api.Errno) {
	for _, s := range l {
		if v, ends, e := m.one(s, w); ends || e != api.OK {
			return v, ends, e
		}
	}
	return nil, false, api.OK
}

func (m *model) one(s api.Stmt, w where) (any, bool, api.Errno) {
	if e := m.burn(); e != api.OK {
		return nil, false, e
	}
	var v any
	var e api.Errno
	if s.Expr.Kind != 0 {
		if v, e = m.expr(s.Expr, w); e != api.OK {
			return nil, false, e
		}
	}
	switch s.Kind {
	case api.StmtReturn:
		return v, true, api.OK
	case api.StmtSet:
		w.set(s.Text, v)
	case api.StmtDef:
		w.set(s.Text, &made{def: s, in: w.source})
	case api.StmtLoad:
		if e := m.load(s.Text); e != api.OK {
			return nil, false, e
		}
		for _, name := range s.Names {
			v, there := m.names[s.Text][name]
			if !there {
				return nil, false, api.ErrNone
			}
			w.set(name, v)
		}
	case api.StmtIf:
		if no(v) {
			return m.all(s.Else, w)
		}
		return m.all(s.Body, w)
	case api.StmtFor:
		l, is := through(v)
		if !is {
			return nil, false, api.ErrType
		}
		for _, x := range l {
			if e := m.burn(); e != api.OK {
				return nil, false, e
			}
			w.set(s.Text, x)
			if v, ends, e := m.all(s.Body, w); ends || e != api.OK {
				return v, ends, e
			}
		}
	}
	return nil, false, api.OK
}

// no tells whether a value is false.
func no(v any) bool {
	switch v := v.(type) {
	case nil:
		return true
	case bool:
		return !v
	case *big.Int:
		return v.Sign() == 0
	case string:
		return len(v) == 0
	case []any:
		return len(v) == 0
	case *pairs:
		return len(v.keys) == 0
	}
	return false
}

func through(v any) ([]any, bool) {
	if d, is := v.(*pairs); is {
		var l []any
		for _, k := range d.keys {
			l = append(l, k)
		}
		return l, true
	}
	l, is := v.([]any)
	return l, is
}

func (m *model) expr(x api.Expr, w where) (any, api.Errno) {
	if e := m.burn(); e != api.OK {
		return nil, e
	}
	switch x.Kind {
	case api.ExprNone:
		return nil, api.OK
	case api.ExprTrue, api.ExprFalse:
		return x.Kind == api.ExprTrue, api.OK
	case api.ExprInt:
		return big.NewInt(int64(x.Number)), api.OK
	case api.ExprText:
		return x.Text, api.OK
	case api.ExprName:
		return m.name(x.Text, w)
	case api.ExprDict:
		return m.dict(x.Kids, w)
	case api.ExprEach:
		return m.each(x, w)
	case api.ExprBinary:
		if x.Text == "or" || x.Text == "and" {
			v, e := m.expr(x.Kids[0], w)
			if e != api.OK || no(v) == (x.Text == "and") {
				return v, e
			}
			return m.expr(x.Kids[1], w)
		}
	}
	// Of the others all kids are reckoned first.
	var l []any
	for _, kid := range x.Kids {
		v, e := m.expr(kid, w)
		if e != api.OK {
			return nil, e
		}
		if l = append(l, v); x.Kind == api.ExprList && len(l) > api.MaxItems {
			return nil, api.ErrMany
		}
	}
	switch x.Kind {
	case api.ExprList:
		return l, api.OK
	case api.ExprCall:
		return m.call(l[0], l[1:], x.Names)
	case api.ExprIndex:
		return at(l[0], l[1])
	case api.ExprNot:
		return no(l[0]), api.OK
	case api.ExprMinus:
		return m.sign("-", big.NewInt(0), l[0])
	}
	return m.sign(x.Text, l[0], l[1])
}

func (m *model) name(name string, w where) (any, api.Errno) {
	if v, there := w.function[name]; there {
		return v, api.OK
	}
	if v, there := w.source[name]; there {
		return v, api.OK
	}
	if slices.Contains(strings.Fields("len str range sorted join glob fail rule"), name) {
		return &made{builtIn: name}, api.OK
	}
	return nil, api.ErrNone
}

func (m *model) dict(kids []api.Expr, w where) (any, api.Errno) {
	d := &pairs{has: map[string]any{}}
	for i, kid := range kids {
		v, e := m.expr(kid, w)
		if e != api.OK {
			return nil, e
		}
		if i%2 == 1 {
			d.has[d.keys[i/2]] = v
			continue
		}
		k, is := v.(string)
		if !is {
			return nil, api.ErrType
		}
		if slices.Contains(d.keys, k) {
			return nil, api.ErrTwice
		}
		d.keys = append(d.keys, k)
	}
	return d, api.OK
}

func (m *model) each(x api.Expr, w where) (any, api.Errno) {
	v, e := m.expr(x.Kids[1], w)
	if e != api.OK {
		return nil, e
	}
	l, is := through(v)
	if !is {
		return nil, api.ErrType
	}
	out := []any{}
	for _, thing := range l {
		if e := m.burn(); e != api.OK {
			return nil, e
		}
		w.set(x.Text, thing)
		if len(x.Kids) > 2 {
			c, e := m.expr(x.Kids[2], w)
			if e != api.OK {
				return nil, e
			}
			if no(c) {
				continue
			}
		}
		v, e := m.expr(x.Kids[0], w)
		if e != api.OK {
			return nil, e
		}
		out = append(out, v)
	}
	return out, api.OK
}

// sort of value, as a word.
func kindOf(v any) string {
	switch v.(type) {
	case nil:
		return "none"
	case bool:
		return "bool"
	case *big.Int:
		return "int"
	case string:
		return "text"
	case []any:
		return "list"
	case *pairs:
		return "dict"
	}
	return "function"
}

func (m *model) equal(a, b any) (bool, api.Errno) {
	if e := m.burn(); e != api.OK {
		return false, e
	}
	if kindOf(a) != kindOf(b) {
		return false, api.OK
	}
	switch a := a.(type) {
	case *made:
		return false, api.ErrType
	case *big.Int:
		return a.Cmp(b.(*big.Int)) == 0, api.OK
	case []any:
		for i := range a {
			if len(a) != len(b.([]any)) {
				return false, api.OK
			}
			if is, e := m.equal(a[i], b.([]any)[i]); !is || e != api.OK {
				return false, e
			}
		}
		return len(a) == len(b.([]any)), api.OK
	case *pairs:
		c := b.(*pairs)
		if len(a.keys) != len(c.keys) {
			return false, api.OK
		}
		for i, k := range a.keys {
			if k != c.keys[i] {
				return false, api.OK
			}
			if is, e := m.equal(a.has[k], c.has[k]); !is || e != api.OK {
				return false, e
			}
		}
		return true, api.OK
	}
	return a == b, api.OK
}

func (m *model) sign(sign string, a, b any) (any, api.Errno) {
	kinds := kindOf(a) + " " + kindOf(b)
	switch sign {
	case "==", "!=":
		is, e := m.equal(a, b)
		return is == (sign == "=="), e
	case "in":
		switch {
		case kinds == "text text":
			return strings.Contains(b.(string), a.(string)), api.OK
		case kinds == "text dict":
			return slices.Contains(b.(*pairs).keys, a.(string)), api.OK
		case kindOf(b) == "list":
			for _, v := range b.([]any) {
				if is, e := m.equal(v, a); is || e != api.OK {
					return is, e
				}
			}
			return false, api.OK
		}
		return nil, api.ErrType
	case "<", "<=":
		c := 0
		switch kinds {
		case "int int":
			c = a.(*big.Int).Cmp(b.(*big.Int))
		case "text text":
			c = strings.Compare(a.(string), b.(string))
		default:
			return nil, api.ErrType
		}
		return c < 0 || c == 0 && sign == "<=", api.OK
	}
	if sign == "+" && kinds == "text text" {
		s := a.(string) + b.(string)
		if len(s) > api.MaxText {
			return nil, api.ErrMany
		}
		return s, api.OK
	}
	if sign == "+" && kinds == "list list" {
		l := slices.Concat(a.([]any), b.([]any))
		if len(l) > api.MaxItems {
			return nil, api.ErrMany
		}
		return l, api.OK
	}
	if kinds != "int int" {
		return nil, api.ErrType
	}
	return reckoned(sign, a.(*big.Int), b.(*big.Int))
}

func reckoned(sign string, a, b *big.Int) (any, api.Errno) {
	n := new(big.Int)
	switch sign {
	case "+":
		n.Add(a, b)
	case "-":
		n.Sub(a, b)
	case "*":
		n.Mul(a, b)
	default:
		if b.Sign() == 0 {
			return nil, api.ErrRange
		}
		// Div is rounded so that what is left is not below 0.
		q, left := new(big.Int).DivMod(a, b, new(big.Int))
		if left.Sign() != 0 && b.Sign() < 0 {
			q.Sub(q, big.NewInt(1))
			left.Add(left, b)
		}
		n = map[string]*big.Int{"//": q, "%": left}[sign]
	}
	if new(big.Int).Abs(n).Cmp(big.NewInt(api.MaxNumber)) > 0 {
		return nil, api.ErrRange
	}
	return n, api.OK
}

func at(of, i any) (any, api.Errno) {
	if d, is := of.(*pairs); is {
		k, is := i.(string)
		if !is {
			return nil, api.ErrType
		}
		if !slices.Contains(d.keys, k) {
			return nil, api.ErrNone
		}
		return d.has[k], api.OK
	}
	n, is := i.(*big.Int)
	if !is || kindOf(of) != "text" && kindOf(of) != "list" {
		return nil, api.ErrType
	}
	var l []any
	if s, is := of.(string); is {
		for i := range len(s) {
			l = append(l, s[i:i+1])
		}
	} else {
		l = of.([]any)
	}
	k := n.Int64()
	if k < 0 {
		k += int64(len(l))
	}
	if k < 0 || k >= int64(len(l)) {
		return nil, api.ErrRange
	}
	return l[k], api.OK
}

func (m *model) call(called any, l []any, names []string) (any, api.Errno) {
	f, is := called.(*made)
	if !is {
		return nil, api.ErrType
	}
	if f.builtIn == "rule" {
		return m.rule(l, names)
	}
	if f.builtIn != "" {
		return m.builtIn(f.builtIn, l, names)
	}
	plain := len(l) - len(names)
	if plain > len(f.def.Names) {
		return nil, api.ErrMany
	}
	own := map[string]any{}
	for i := range plain {
		own[f.def.Names[i]] = l[i]
	}
	for i, name := range names {
		if !slices.Contains(f.def.Names, name) {
			return nil, api.ErrNone
		}
		if _, there := own[name]; there {
			return nil, api.ErrTwice
		}
		own[name] = l[plain+i]
	}
	for _, name := range f.def.Names {
		if _, there := own[name]; !there {
			return nil, api.ErrMany
		}
	}
	if f.busy {
		return nil, api.ErrCircle
	}
	f.busy = true
	v, _, e := m.all(f.def.Body, where{source: f.in, function: own})
	f.busy = false
	return v, e
}

func textsOf(v any) ([]string, bool) {
	l, is := v.([]any)
	var texts []string
	for _, x := range l {
		s, isText := x.(string)
		texts, is = append(texts, s), is && isText
	}
	return texts, is
}

func (m *model) builtIn(name string, l []any, names []string) (any, api.Errno) {
	if len(names) > 0 {
		return nil, api.ErrType
	}
	if many := map[string]int{"join": 2}[name]; len(l) != max(many, 1) {
		return nil, api.ErrMany
	}
	s, isText := l[0].(string)
	n, isInt := l[0].(*big.Int)
	texts, areTexts := textsOf(l[len(l)-1])
	switch name {
	case "len":
		things, is := through(l[0])
		if !is && !isText {
			return nil, api.ErrType
		}
		return big.NewInt(int64(len(things) + len(s))), api.OK
	case "str":
		return wrapped(m.str(l[0]))
	case "range":
		if !isInt {
			return nil, api.ErrType
		}
		if n.Cmp(big.NewInt(api.MaxItems)) > 0 {
			return nil, api.ErrMany
		}
		out := []any{}
		for i := int64(0); i < n.Int64(); i++ {
			out = append(out, big.NewInt(i))
		}
		return out, api.OK
	case "sorted":
		return inOrder(l[0])
	case "join":
		if !isText || !areTexts {
			return nil, api.ErrType
		}
		if joined := strings.Join(texts, s); len(joined) <= api.MaxText {
			return joined, api.OK
		}
		return nil, api.ErrMany
	case "glob":
		if !areTexts {
			return nil, api.ErrType
		}
		return m.glob(texts), api.OK
	}
	if !isText {
		return nil, api.ErrType
	}
	return nil, api.ErrFail
}

func wrapped(s string, e api.Errno) (any, api.Errno) { return s, e }

func inOrder(v any) (any, api.Errno) {
	l, is := v.([]any)
	if !is {
		return nil, api.ErrType
	}
	l = slices.Clone(l)
	for _, x := range l {
		if kindOf(x) != kindOf(l[0]) || kindOf(x) != "int" && kindOf(x) != "text" {
			return nil, api.ErrType
		}
	}
	sort.Slice(l, func(i, j int) bool {
		if s, is := l[i].(string); is {
			return s < l[j].(string)
		}
		return l[i].(*big.Int).Cmp(l[j].(*big.Int)) < 0
	})
	return l, api.OK
}

func (m *model) glob(forms []string) []any {
	var paths []string
	for path := range m.files {
		for _, form := range forms {
			pattern := "^" + strings.ReplaceAll(regexp.QuoteMeta(form), `\*`, "[^/]*") + "$"
			if regexp.MustCompile(pattern).MatchString(path) {
				paths = append(paths, path)
				break
			}
		}
	}
	sort.Strings(paths)
	l := []any{}
	for _, path := range paths {
		l = append(l, path)
	}
	return l
}

func (m *model) rule(l []any, names []string) (any, api.Errno) {
	if len(l) > len(names) {
		return nil, api.ErrType
	}
	t := api.Target{}
	lists := map[string]*[]string{"sources": &t.Sources, "needs": &t.Needs, "outs": &t.Outs, "command": &t.Command}
	for i, name := range names {
		if name == "name" {
			s, is := l[i].(string)
			if !is {
				return nil, api.ErrType
			}
			t.Name = s
			continue
		}
		to, there := lists[name]
		if !there {
			return nil, api.ErrNone
		}
		texts, are := textsOf(l[i])
		if !are {
			return nil, api.ErrType
		}
		*to = texts
	}
	if !slices.Contains(names, "name") {
		return nil, api.ErrMany
	}
	if !regexp.MustCompile(`^[a-z0-9_.-]{1,20}$`).MatchString(t.Name) || t.Name == "." || t.Name == ".." {
		return nil, api.ErrForm
	}
	for _, o := range m.targets {
		if o.Name == t.Name {
			return nil, api.ErrTwice
		}
	}
	if len(m.targets) == api.MaxFiles {
		return nil, api.ErrMany
	}
	m.targets = append(m.targets, t)
	return t.Name, api.OK
}

func (m *model) str(v any) (string, api.Errno) {
	if s, is := v.(string); is {
		return s, m.burn()
	}
	return m.written("", v)
}

// written behind what is written already.
func (m *model) written(s string, v any) (string, api.Errno) {
	if e := m.burn(); e != api.OK {
		return "", e
	}
	switch v := v.(type) {
	case nil:
		s += "None"
	case bool:
		s += map[bool]string{true: "True", false: "False"}[v]
	case *big.Int:
		s += v.String()
	case string:
		s += syntax.Quote(v)
	case []any:
		s += "["
		for i, x := range v {
			if i > 0 {
				s += ", "
			}
			if len(s) > api.MaxText {
				return "", api.ErrMany
			}
			var e api.Errno
			if s, e = m.written(s, x); e != api.OK {
				return "", e
			}
		}
		s += "]"
	case *pairs:
		s += "{"
		for i, k := range v.keys {
			if i > 0 {
				s += ", "
			}
			s += syntax.Quote(k) + ": "
			if len(s) > api.MaxText {
				return "", api.ErrMany
			}
			var e api.Errno
			if s, e = m.written(s, v.has[k]); e != api.OK {
				return "", e
			}
		}
		s += "}"
	default:
		return "", api.ErrType
	}
	if len(s) > api.MaxText {
		return "", api.ErrMany
	}
	return s, api.OK
}
