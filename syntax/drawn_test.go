package syntax_test

import (
	"slices"
	"strings"
	"testing"

	"foundry/api"
	"foundry/syntax"
	"foundry/token"
)

// draw numbers that are the same each time.
type draw uint64

func (d *draw) below(n int) int {
	*d = *d*6364136223846793005 + 1442695040888963407
	return int(uint64(*d) >> 33 % uint64(n))
}

func (d *draw) of(l ...string) string { return l[d.below(len(l))] }

func (d *draw) name() string { return d.of("a", "b", "c", "f", "x1", "_") }

func (d *draw) text() string {
	return d.of("", "a", "if", "( b", "\n", "\t\\\"", "#", "\xff\xfe", "a b", "\\n")
}

// exprs that are drawn, most of them.
func (d *draw) exprs(deep, most int) []api.Expr {
	var l []api.Expr
	for range d.below(most + 1) {
		l = append(l, d.expr(deep))
	}
	return l
}

// expr that is drawn, with so many within one another at most.
func (d *draw) expr(deep int) api.Expr {
	k := 1 + d.below(14)
	if deep == 0 {
		k = 1 + d.below(6)
	}
	e := api.Expr{Kind: k}
	switch k {
	case api.ExprInt:
		e.Number = []int{0, 1, 7, 42, api.MaxNumber}[d.below(5)]
	case api.ExprText:
		e.Text = d.text()
	case api.ExprName:
		e.Text = d.name()
	case api.ExprList:
		e.Kids = d.exprs(deep-1, 3)
	case api.ExprDict:
		for range 2 * d.below(3) {
			e.Kids = append(e.Kids, d.expr(deep-1))
		}
	case api.ExprEach:
		e.Text = d.name()
		e.Kids = append([]api.Expr{d.expr(deep - 1), d.expr(deep - 1)}, d.exprs(deep-1, 1)...)
	case api.ExprCall:
		e.Kids = append([]api.Expr{d.expr(deep - 1)}, d.exprs(deep-1, 3)...)
		for _, name := range []string{"b", "a", "f"}[:d.below(len(e.Kids))] {
			e.Names = append(e.Names, name)
		}
	case api.ExprIndex:
		e.Kids = []api.Expr{d.expr(deep - 1), d.expr(deep - 1)}
	case api.ExprNot, api.ExprMinus:
		e.Kids = []api.Expr{d.expr(deep - 1)}
	case api.ExprBinary:
		e.Text = d.of("or", "and", "==", "!=", "<", "<=", "in", "+", "-", "*", "//", "%")
		e.Kids = []api.Expr{d.expr(deep - 1), d.expr(deep - 1)}
	}
	return e
}

// stmts that are drawn, one at least, in so many blocks at most.
func (d *draw) stmts(blocks int, top, def bool) []api.Stmt {
	var l []api.Stmt
	for range 1 + d.below(3) {
		l = append(l, d.stmt(blocks, top, def))
	}
	return l
}

func (d *draw) stmt(blocks int, top, def bool) api.Stmt {
	s := api.Stmt{Kind: 1 + d.below(8)}
	switch {
	case s.Kind == api.StmtReturn && !def, s.Kind == api.StmtLoad && !top, s.Kind == api.StmtDef && !top, s.Kind >= api.StmtDef && blocks == 0:
		s.Kind = api.StmtSet
	}
	switch s.Kind {
	case api.StmtReturn, api.StmtExpr:
		s.Expr = d.expr(d.below(4))
	case api.StmtSet:
		s.Text, s.Expr = d.name(), d.expr(d.below(4))
	case api.StmtLoad:
		s.Text = d.text()
		for range 1 + d.below(3) {
			s.Names = append(s.Names, d.name())
		}
	case api.StmtDef:
		s.Text = d.name()
		s.Names = slices.Clone([]string{"a", "x1", "c"}[d.below(4):])
		s.Body = d.stmts(blocks-1, false, true)
	case api.StmtIf:
		s.Expr, s.Body = d.expr(d.below(3)), d.stmts(blocks-1, false, def)
		if d.below(2) == 0 {
			s.Else = d.stmts(blocks-1, false, def)
		}
	case api.StmtFor:
		s.Text, s.Expr, s.Body = d.name(), d.expr(d.below(3)), d.stmts(blocks-1, false, def)
	}
	return s
}

// loose writes sources in some way: with as many blanks, ends of lines, remarks and brackets as are drawn.
type loose struct {
	*draw
	strings.Builder
	brackets int
	joins    bool // the token ahead and a word would be one
}

// say tokens.
func (o *loose) say(tokens ...string) {
	for _, t := range tokens {
		word := t[0] == '_' || t[0] >= '0' && t[0] <= '9' || t[0] >= 'a' && t[0] <= 'z' || t[0] >= 'A' && t[0] <= 'Z'
		if o.joins && word || t == "=" || t == "==" || o.below(3) == 0 {
			o.WriteString(o.of(" ", "  "))
		}
		if o.brackets > 0 && o.below(12) == 0 {
			o.WriteString(o.of("\n", "\n\n   ", "# so ( \"\n"))
		}
		o.WriteString(t)
		o.joins = word
		switch t {
		case "(", "[", "{":
			o.brackets++
		case ")", "]", "}":
			o.brackets--
		}
	}
}

func (o *loose) quoted(s string) {
	o.say(`"` + strings.NewReplacer("\n", `\n`, "\t", `\t`, `\`, `\\`, `"`, `\"`).Replace(s) + `"`)
}

// binds: how strongly a sign does; the expressions that have none most.
func binds(e api.Expr) int {
	switch e.Kind {
	case api.ExprNot:
		return 3
	case api.ExprMinus:
		return 7
	case api.ExprCall, api.ExprIndex:
		return 8
	case api.ExprBinary:
		return map[string]int{"or": 1, "and": 2, "+": 5, "-": 5, "*": 6, "//": 6, "%": 6, "==": 4, "!=": 4, "<": 4, "<=": 4, "in": 4}[e.Text]
	}
	return 9
}

// expr at a place where something binds so strongly at least.
func (o *loose) expr(e api.Expr, least int) {
	if binds(e) < least || o.below(15) == 0 {
		o.say("(")
		o.expr(e, 0)
		o.say(")")
		return
	}
	switch e.Kind {
	case api.ExprNone:
		o.say("None")
	case api.ExprTrue:
		o.say("True")
	case api.ExprFalse:
		o.say("False")
	case api.ExprInt:
		o.say(map[int]string{0: "0", 1: "1", 7: "7", 42: "42", api.MaxNumber: "9007199254740991"}[e.Number])
	case api.ExprText:
		o.quoted(e.Text)
	case api.ExprName:
		o.say(e.Text)
	case api.ExprNot, api.ExprMinus:
		o.say(map[int]string{api.ExprNot: "not", api.ExprMinus: "-"}[e.Kind])
		o.expr(e.Kids[0], binds(e))
	case api.ExprBinary:
		left := binds(e)
		if left == 4 {
			left++
		}
		o.expr(e.Kids[0], left)
		o.say(e.Text)
		o.expr(e.Kids[1], binds(e)+1)
	default:
		o.bracketed(e)
	}
}

func (o *loose) bracketed(e api.Expr) {
	kids := e.Kids
	signs := map[int][2]string{api.ExprList: {"[", "]"}, api.ExprEach: {"[", "]"}, api.ExprIndex: {"[", "]"}, api.ExprDict: {"{", "}"}, api.ExprCall: {"(", ")"}}[e.Kind]
	if e.Kind == api.ExprCall || e.Kind == api.ExprIndex {
		o.expr(kids[0], 8)
		kids = kids[1:]
	}
	o.say(signs[0])
	for i, kid := range kids {
		switch {
		case e.Kind == api.ExprEach && i == 1:
			o.say("for", e.Text, "in")
		case e.Kind == api.ExprEach && i == 2:
			o.say("if")
		case e.Kind == api.ExprDict && i%2 == 1:
			o.say(":")
		case i > 0:
			o.say(",")
		}
		if named := i - len(kids) + len(e.Names); named >= 0 {
			o.say(e.Names[named], "=")
		}
		o.expr(kid, 0)
	}
	o.say(signs[1])
}

// names with commas between them, in brackets.
func (o *loose) names(l []string, say func(string)) {
	o.say("(")
	for i, name := range l {
		if i > 0 {
			o.say(",")
		}
		say(name)
	}
	o.say(")")
}

func (o *loose) block(l []api.Stmt, in int) {
	o.say(":")
	o.line()
	o.stmts(l, in+1+o.below(5))
}

func (o *loose) line() {
	o.WriteString(o.of("\n", "\n", "  \n", " # so\n", "\n\n", "\n      # so\n"))
	o.joins = false
}

func (o *loose) stmts(l []api.Stmt, in int) {
	for _, s := range l {
		o.WriteString(strings.Repeat(" ", in))
		var first loose
		first.draw = o.draw
		first.stmt(s, in)
		o.WriteString(strings.TrimLeft(first.String(), " "))
	}
}

func (o *loose) stmt(s api.Stmt, in int) {
	one := func(name string) { o.say(name) }
	switch s.Kind {
	case api.StmtPass:
		o.say("pass")
	case api.StmtReturn:
		o.say("return")
		if s.Expr.Kind != api.ExprNone || o.below(2) == 0 {
			o.expr(s.Expr, 0)
		}
	case api.StmtSet:
		o.say(s.Text, "=")
		o.expr(s.Expr, 0)
	case api.StmtLoad:
		o.say("load")
		o.names(append([]string{s.Text}, s.Names...), o.quoted)
	case api.StmtExpr:
		o.expr(s.Expr, 0)
	case api.StmtDef:
		o.say("def", s.Text)
		o.names(s.Names, one)
		o.block(s.Body, in)
		return
	case api.StmtIf:
		o.say("if")
		o.expr(s.Expr, 0)
		o.block(s.Body, in)
		if s.Else != nil {
			o.WriteString(strings.Repeat(" ", in) + "else")
			o.block(s.Else, in)
		}
		return
	case api.StmtFor:
		o.say("for", s.Text, "in")
		o.expr(s.Expr, 0)
		o.block(s.Body, in)
		return
	}
	o.line()
}

// drawnSource with its statements; it may be too long, or too deep.
func drawnSource(d *draw) (string, []api.Stmt) {
	l := d.stmts(d.below(4), true, false)
	o := loose{draw: d}
	o.stmts(l, 0)
	return o.String(), l
}

func TestG1DrawnSources(t *testing.T) {
	d := draw(1)
	good := 0
	for range 10000 {
		s, want := drawnSource(&d)
		l, f := syntax.Parse(s)
		if f.Err == api.ErrMany {
			continue
		}
		if shown(l) != shown(want) || f != (api.Fault{}) {
			t.Fatalf("Parse(%q):\n%s %v, must be\n%s", s, shown(l), f, shown(want))
		}
		good++
	}
	if good < 9500 {
		t.Errorf("only %d were looked at", good)
	}
}

// endsOperand tells whether something that has a value ends with a token.
func endsOperand(t api.Token) bool {
	return t.Kind == api.TokenName || t.Kind == api.TokenInt || t.Kind == api.TokenText || strings.Contains(" True False None ) ] } ", " "+t.Text+" ")
}

// apart: whether there is a blank between the token at a place and the one ahead of it, as the document says of Canon.
func apart(l []api.Token, i, brackets int) bool {
	a, b := l[i-1].Text, l[i].Text
	isText := func(i int) bool { return l[i].Kind == api.TokenText }
	switch {
	case !isText(i-1) && slices.Contains([]string{"(", "[", "{"}, a), !isText(i) && slices.Contains([]string{")", "]", "}", ",", ":"}, b):
		return false
	case !isText(i) && (b == "(" || b == "[") && (endsOperand(l[i-1]) || !isText(i-1) && a == "load"):
		return false
	case brackets > 0 && (!isText(i-1) && a == "=" || !isText(i) && b == "="):
		return false
	case !isText(i-1) && a == "-" && (i < 2 || !endsOperand(l[i-2])):
		return false
	}
	return true
}

// spaced is a source again, of its tokens, with blanks where they must be.
func spaced(t *testing.T, s string) string {
	l, f := token.Split(s)
	if f.Err != api.OK {
		t.Fatalf("Split(%q): %v", s, f)
	}
	var b strings.Builder
	blocks, brackets, first := 0, 0, true
	for i, x := range l {
		switch x.Kind {
		case api.TokenIn:
			blocks++
			continue
		case api.TokenOut:
			blocks--
			continue
		case api.TokenLine:
			b.WriteString("\n")
			first = true
			continue
		}
		if first {
			b.WriteString(strings.Repeat("    ", blocks))
		} else if apart(l, i, brackets) {
			b.WriteString(" ")
		}
		first = false
		if x.Kind == api.TokenText {
			b.WriteString(syntax.Quote(x.Text))
			continue
		}
		b.WriteString(x.Text)
		brackets += strings.Count("([{", x.Text) - strings.Count(")]}", x.Text)
	}
	return b.String()
}

// needed: how many expressions must stand in brackets.
func needed(e api.Expr, signed bool) int {
	n := 0
	sign := e.Kind == api.ExprNot || e.Kind == api.ExprMinus || e.Kind == api.ExprBinary
	if signed && sign {
		n++
	}
	for i, kid := range e.Kids {
		n += needed(kid, sign || i == 0 && (e.Kind == api.ExprCall || e.Kind == api.ExprIndex))
	}
	return n
}

// groups counts what of statements must stand in brackets, and what has them anyway.
func groups(l []api.Stmt) int {
	var calls func(e api.Expr) int
	calls = func(e api.Expr) int {
		n := 0
		if e.Kind == api.ExprCall {
			n++
		}
		for _, kid := range e.Kids {
			n += calls(kid)
		}
		return n
	}
	n := 0
	for _, s := range l {
		if s.Kind == api.StmtDef || s.Kind == api.StmtLoad {
			n++
		}
		n += needed(s.Expr, false) + calls(s.Expr) + groups(s.Body) + groups(s.Else)
	}
	return n
}

func TestG3G4DrawnSources(t *testing.T) {
	d := draw(2)
	good := 0
	for range 10000 {
		s, want := drawnSource(&d)
		c, f := syntax.Canon(s)
		if f.Err == api.ErrMany {
			continue
		}
		l, g := syntax.Parse(c)
		if f != (api.Fault{}) || g != (api.Fault{}) || shown(l) != shown(want) {
			t.Fatalf("Canon(%q): %q %v, which is\n%s %v, not\n%s", s, c, f, shown(l), g, shown(want))
		}
		if again, _ := syntax.Canon(c); again != c {
			t.Fatalf("Canon(%q): %q", c, again)
		}
		if c != spaced(t, c) {
			t.Fatalf("Canon(%q):\n%q, must be spaced\n%q", s, c, spaced(t, c))
		}
		tokens, _ := token.Split(c)
		n := 0
		for _, x := range tokens {
			if x.Kind == api.TokenSign && x.Text == "(" {
				n++
			}
		}
		if n != groups(want) {
			t.Fatalf("Canon(%q): %q, has %d brackets, must have %d", s, c, n, groups(want))
		}
		good++
	}
	if good < 9500 {
		t.Errorf("only %d were looked at", good)
	}
}

// pieces with which sources are spoilt.
func pieces() []string {
	return []string{"a", "f(", "1", `"b"`, "=", "==", "-", "not", "in", "for", "if", "else", "(", ")", "[", "]", "{", "}", ",", ":", "pass", "return", "def", "load(\"x\", \"y\")", "load(\"x\", \"if\")", "None", "a=", "f(a=1, a=2)", "f(a=1, b)", "def f(a, a):\n pass\n", "\n", "\n  ", " ", "+", "or", "[a for b in c]"}
}

// spoilt: a source of which some tokens are gone, or have others beside them.
func spoilt(d *draw, s string) string {
	l, f := token.Split(s)
	if f.Err != api.OK || len(l) == 0 {
		return s
	}
	for range 1 + d.below(2) {
		at := l[d.below(len(l))].At
		at = min(at, len(s))
		behind := at
		if d.below(2) == 0 {
			behind = min(len(s), at+1+d.below(4))
		}
		s = s[:at] + " " + d.of(append(pieces(), "", "", "", "")...) + " " + s[behind:]
	}
	return s
}

// interposed: a source with a line more, as far in as the one behind it.
func interposed(d *draw, s string) string {
	lines := strings.SplitAfter(s, "\n")
	i := d.below(len(lines))
	in := lines[i][:len(lines[i])-len(strings.TrimLeft(lines[i], " "))]
	line := d.of("return", "return -a", `load("x", "y")`, "def g(b):\n"+in+" return b", "def g(b, a, b):\n"+in+" pass", "f(b=1, a=2, b=3)", "pass") + "\n"
	return strings.Join(slices.Insert(lines, i, in+line), "")
}

// tally of the faults that Parse tells, but for those of Split.
type tally map[api.Errno]int

func (had tally) count(t *testing.T, s string) {
	e := asModel(t, s)
	if _, f := token.Split(s); f.Err == api.OK {
		had[e]++
	}
}

func (had tally) mustHave(t *testing.T, least int, errs ...api.Errno) {
	for _, e := range errs {
		if had[e] < least {
			t.Errorf("the error %d came %d times: %v", e, had[e], had)
		}
	}
}

func TestG2DrawnFaults(t *testing.T) {
	d := draw(3)
	had := tally{}
	for range 5000 {
		s, _ := drawnSource(&d)
		if len(s) < 200 {
			had.count(t, spoilt(&d, s))
			had.count(t, interposed(&d, s))
		}
	}
	for range 3000 {
		// Lines that are drawn of pieces alone.
		var b strings.Builder
		for range 1 + d.below(12) {
			b.WriteString(d.of(pieces()...) + " ")
		}
		had.count(t, b.String())
	}
	had.mustHave(t, 150, api.OK, api.ErrForm, api.ErrState, api.ErrTwice)
}

// drawnDeep is an expression with many in one another; what is behind a sign does not begin with `not`.
func drawnDeep(d *draw) string {
	s, closing := "", ""
	for range 20 + d.below(15) {
		w := [][2]string{{"(", ")"}, {"[", "]"}, {"f(", ")"}, {"f(a=1, b=", ")"}, {"a[", "]"}, {"{", ": 1}"}, {"{-1: ", "}"}, {"[", " for a in b]"}, {"[a for b in ", " if c]"}, {"-", ""}, {"a + ", ""}, {"-a * ", ""}, {"- -", ""}, {"(not ", ")"}, {"(not a and not ", " or b)"}, {"[not a == ", "]"}, {"f(not not ", ")"}}[d.below(17)]
		s += w[0]
		closing = w[1] + closing
	}
	return s + d.of("1", "a", "[]", "f()", "-1", "f(not 1)", "[]", "pass", "f(a=1, a=2)", "") + closing
}

func TestG2DrawnDeep(t *testing.T) {
	d := draw(4)
	had := tally{}
	for range 1500 {
		s := d.of("", "x = ", "x = not ", "f() or ") + drawnDeep(&d)
		had.count(t, s)
		if d.below(3) == 0 {
			had.count(t, spoilt(&d, s))
		}
	}
	had.mustHave(t, 100, api.OK, api.ErrForm, api.ErrMany)
}
