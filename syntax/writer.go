package syntax

import (
	"strconv"
	"strings"

	"foundry/api"
)

// writer of sources, in just one way.
type writer struct {
	strings.Builder
	blocks int // in how many blocks one is
}

func (w *writer) statements(l []api.Stmt) {
	for _, s := range l {
		w.begin()
		w.statement(s)
	}
}

// begin a line.
func (w *writer) begin() { w.WriteString(strings.Repeat("    ", w.blocks)) }

func (w *writer) statement(s api.Stmt) {
	switch s.Kind {
	case api.StmtDef:
		w.WriteString("def " + s.Text + "(" + strings.Join(s.Names, ", ") + ")")
		w.block(s.Body)
	case api.StmtIf:
		w.before(s.Expr, "if ")
		w.block(s.Body)
		if len(s.Else) > 0 {
			w.begin()
			w.WriteString("else")
			w.block(s.Else)
		}
	case api.StmtFor:
		w.before(s.Expr, "for "+s.Text+" in ")
		w.block(s.Body)
	default:
		w.small(s)
		w.WriteByte('\n')
	}
}

func (w *writer) block(l []api.Stmt) {
	w.WriteString(":\n")
	w.blocks++
	w.statements(l)
	w.blocks--
}

func (w *writer) small(s api.Stmt) {
	switch s.Kind {
	case api.StmtPass:
		w.WriteString("pass")
	case api.StmtReturn:
		w.before(s.Expr, "return ")
	case api.StmtSet:
		w.before(s.Expr, s.Text+" = ")
	case api.StmtLoad:
		w.load(s)
	case api.StmtExpr:
		w.expression(s.Expr)
	}
}

func (w *writer) load(s api.Stmt) {
	texts := append([]string{s.Text}, s.Names...)
	w.listed("load(", len(texts), ")", func(i int) { w.text(texts[i]) })
}

// before an expression stands something.
func (w *writer) before(e api.Expr, ahead string) {
	w.WriteString(ahead)
	w.expression(e)
}

// listed are so many things, with `, ` between them.
func (w *writer) listed(opening string, many int, closing string, each func(i int)) {
	w.WriteString(opening)
	for i := range many {
		if i > 0 {
			w.WriteString(", ")
		}
		each(i)
	}
	w.WriteString(closing)
}

func (w *writer) expression(e api.Expr) {
	switch e.Kind {
	case api.ExprNone:
		w.WriteString("None")
	case api.ExprTrue:
		w.WriteString("True")
	case api.ExprFalse:
		w.WriteString("False")
	case api.ExprInt:
		w.WriteString(strconv.Itoa(e.Number))
	case api.ExprText:
		w.text(e.Text)
	case api.ExprName:
		w.WriteString(e.Text)
	default:
		w.made(e)
	}
}

// made is an expression that is made of others.
func (w *writer) made(e api.Expr) {
	switch e.Kind {
	case api.ExprList:
		w.listed("[", len(e.Kids), "]", func(i int) { w.expression(e.Kids[i]) })
	case api.ExprDict:
		w.listed("{", len(e.Kids)/2, "}", func(i int) {
			w.expression(e.Kids[2*i])
			w.before(e.Kids[2*i+1], ": ")
		})
	case api.ExprEach:
		w.each(e)
	case api.ExprCall:
		w.part(e.Kids[0])
		w.handed(e.Kids[1:], e.Names)
	case api.ExprIndex:
		w.part(e.Kids[0])
		w.before(e.Kids[1], "[")
		w.WriteByte(']')
	case api.ExprNot:
		w.WriteString("not ")
		w.part(e.Kids[0])
	case api.ExprMinus:
		w.WriteByte('-')
		w.part(e.Kids[0])
	case api.ExprBinary:
		w.part(e.Kids[0])
		w.WriteString(" " + e.Text + " ")
		w.part(e.Kids[1])
	}
}

// part of an expression with a sign, or what is called or asked for one: with brackets, if it has a sign itself.
func (w *writer) part(e api.Expr) {
	switch e.Kind {
	case api.ExprNot, api.ExprMinus, api.ExprBinary:
		w.before(e, "(")
		w.WriteByte(')')
	default:
		w.expression(e)
	}
}

func (w *writer) each(e api.Expr) {
	w.before(e.Kids[0], "[")
	w.before(e.Kids[1], " for "+e.Text+" in ")
	if len(e.Kids) > 2 {
		w.before(e.Kids[2], " if ")
	}
	w.WriteByte(']')
}

// handed in are these, the last ones by names.
func (w *writer) handed(l []api.Expr, names []string) {
	unnamed := len(l) - len(names)
	w.listed("(", len(l), ")", func(i int) {
		if i >= unnamed {
			w.WriteString(names[i-unnamed] + "=")
		}
		w.expression(l[i])
	})
}

// text between quotes.
func (w *writer) text(s string) {
	w.WriteByte('"')
	for i := range len(s) {
		switch s[i] {
		case '\n':
			w.WriteString(`\n`)
		case '\t':
			w.WriteString(`\t`)
		case '\\', '"':
			w.WriteByte('\\')
			w.WriteByte(s[i])
		default:
			w.WriteByte(s[i])
		}
	}
	w.WriteByte('"')
}
