package syntax_test

import (
	"regexp"
	"slices"
	"strings"
	"testing"

	"foundry/api"
	"foundry/syntax"
	"foundry/token"
)

// grammar is the document's table, a line for each thing, | between the ways in which it can be; _ is nothing. NAME is any name, SET one with `=` behind it.
const grammar = `
SOURCE: _ | SOURCE STATEMENT
STATEMENT: SMALL LINE | if EXPR : BLOCK | if EXPR : BLOCK else : BLOCK | for NAME in EXPR : BLOCK | def NAME ( ) : BLOCK | def NAME ( NAMES ) : BLOCK
NAMES: NAME | NAMES , NAME
SMALL: pass | return | return EXPR | SET = EXPR | load ( TEXT TEXTS ) | EXPR
TEXTS: , TEXT | TEXTS , TEXT
BLOCK: LINE IN STATEMENTS OUT
STATEMENTS: STATEMENT | STATEMENTS STATEMENT
EXPR: AND | EXPR or AND
AND: NOT | AND and NOT
NOT: not NOT | COMPARISON
COMPARISON: SUM | SUM == SUM | SUM != SUM | SUM < SUM | SUM <= SUM | SUM in SUM
SUM: PRODUCT | SUM + PRODUCT | SUM - PRODUCT
PRODUCT: UNARY | PRODUCT * UNARY | PRODUCT // UNARY | PRODUCT % UNARY
UNARY: - UNARY | POST
POST: ATOM | POST ( ) | POST ( EXPRS ) | POST ( BYNAMES ) | POST ( EXPRS , BYNAMES ) | POST [ EXPR ]
EXPRS: EXPR | EXPRS , EXPR
BYNAMES: SET = EXPR | BYNAMES , SET = EXPR
ATOM: NAME | INT | TEXT | True | False | None | ( EXPR ) | [ ] | [ EXPRS ] | [ EXPR for NAME in EXPR ] | [ EXPR for NAME in EXPR if EXPR ] | { } | { PAIRS }
PAIRS: EXPR : EXPR | PAIRS , EXPR : EXPR
`

// rule: a thing, and one way in which it can be.
type rule struct {
	thing string
	parts []string
}

func rules() (l []rule) {
	for _, line := range strings.Split(strings.TrimSpace(grammar), "\n") {
		thing, ways, _ := strings.Cut(line, ": ")
		for _, way := range strings.Split(ways, " | ") {
			parts := strings.Fields(way)
			if way == "_" {
				parts = nil
			}
			l = append(l, rule{thing, parts})
		}
	}
	return l
}

// item: a rule that began at a token, of which so many parts have been met.
type item struct{ rule, met, begin int }

// earley goes through words as the grammar allows, whatever way that is.
type earley struct {
	rules []rule
	sets  [][]item
}

func newEarley() *earley {
	e := &earley{rules: rules(), sets: [][]item{{{0, 0, 0}, {1, 0, 0}}}}
	e.close()
	return e
}

// wanted is what comes next in an item; nothing, if all of it has been met.
func (e *earley) wanted(i item) string {
	if r := e.rules[i.rule]; i.met < len(r.parts) {
		return r.parts[i.met]
	}
	return ""
}

func (e *earley) add(i item) {
	last := len(e.sets) - 1
	if !slices.Contains(e.sets[last], i) {
		e.sets[last] = append(e.sets[last], i)
	}
}

// close the last set: what may begin there, and what goes on where something else is whole. Only SOURCE may be nothing, and it is wanted just at the beginning.
func (e *earley) close() {
	last := len(e.sets) - 1
	for again := -1; again != len(e.sets[last]); {
		again = len(e.sets[last])
		for k := 0; k < len(e.sets[last]); k++ {
			i := e.sets[last][k]
			if next := e.wanted(i); next != "" {
				for n, r := range e.rules {
					if r.thing == next {
						e.add(item{n, 0, last})
					}
				}
				continue
			}
			for _, j := range slices.Clone(e.sets[i.begin]) {
				if e.wanted(j) == e.rules[i.rule].thing {
					e.add(item{j.rule, j.met + 1, j.begin})
				}
			}
		}
	}
}

// takes a token, if the grammar allows it there.
func (e *earley) takes(words ...string) bool {
	var next []item
	for _, i := range e.sets[len(e.sets)-1] {
		if slices.Contains(words, e.wanted(i)) {
			next = append(next, item{i.rule, i.met + 1, i.begin})
		}
	}
	if next == nil {
		return false
	}
	e.sets = append(e.sets, next)
	e.close()
	return true
}

// whole tells whether what has been taken is a source.
func (e *earley) whole() bool {
	return slices.ContainsFunc(e.sets[len(e.sets)-1], func(i item) bool {
		return i.begin == 0 && e.wanted(i) == "" && e.rules[i.rule].thing == "SOURCE"
	})
}

// words by which the grammar calls the token at a place.
func words(l []api.Token, i int) []string {
	switch l[i].Kind {
	case api.TokenName:
		if i+1 < len(l) && l[i+1].Kind == api.TokenSign && l[i+1].Text == "=" {
			return []string{"NAME", "SET"}
		}
		return []string{"NAME"}
	case api.TokenInt:
		return []string{"INT"}
	case api.TokenText:
		return []string{"TEXT"}
	case api.TokenLine:
		return []string{"LINE"}
	case api.TokenIn:
		return []string{"IN"}
	case api.TokenOut:
		return []string{"OUT"}
	}
	return []string{l[i].Text}
}

// level of brackets: how many `not` and `-` one is behind, and the names that were there.
type level struct {
	nots, minuses int
	names         []string
	call          bool
}

// counts are what the faults beside ErrForm hang on, as one sees it by tokens alone.
type counts struct {
	ahead  string   // what the token ahead is: a sign or word, or the word by which the grammar calls it
	line   string   // with what the line begins
	begun  bool     // whether it has
	blocks []string // with what those lines begin in whose blocks one is
	levels []level
	texts  int
}

// endsOperand tells whether something that has a value ends with the token ahead.
func (c *counts) endsOperand() bool {
	return slices.Contains([]string{"NAME", "INT", "TEXT", "True", "False", "None", ")", "]", "}"}, c.ahead)
}

func (c *counts) top() *level { return &c.levels[len(c.levels)-1] }

var nameForm = regexp.MustCompile(`^[A-Za-z_][A-Za-z_0-9]*$`)

// fault at a token that the grammar allows.
func (c *counts) fault(t api.Token, word string, isSet bool) api.Errno {
	switch {
	case word == "def" && len(c.blocks) > 0, word == "load" && len(c.blocks) > 0, word == "return" && !slices.Contains(c.blocks, "def"):
		return api.ErrState
	case word == "NAME" && c.line == "def" && len(c.levels) == 2, isSet && c.top().call && (c.ahead == "(" || c.ahead == ","):
		if slices.Contains(c.top().names, t.Text) {
			return api.ErrTwice
		}
		c.top().names = append(c.top().names, t.Text)
	case word == "TEXT" && c.line == "load":
		c.texts++
		if c.texts > 1 && (!nameForm.MatchString(t.Text) || strings.Contains(" and or not in if else for def return pass True False None load ", " "+t.Text+" ")) {
			return api.ErrForm
		}
	}
	deep := 0
	for _, l := range c.levels {
		deep += 1 + l.nots + l.minuses
	}
	// A name ahead of `=` begins no expression; nor does that of a `for`.
	if begins := slices.Contains([]string{"NAME", "INT", "TEXT", "True", "False", "None", "(", "[", "{", "-", "not"}, word); begins && !c.endsOperand() && !isSet && c.ahead != "for" && deep > api.MaxNest {
		return api.ErrMany
	}
	return api.OK
}

// count a token in.
func (c *counts) count(word string) {
	operand := c.endsOperand()
	switch word {
	case "LINE":
		*c = counts{line: c.line, blocks: c.blocks, levels: []level{{}}}
	case "IN":
		c.blocks = append(c.blocks, c.line)
	case "OUT":
		c.blocks = c.blocks[:len(c.blocks)-1]
	case "(", "[", "{":
		c.levels = append(c.levels, level{call: word == "(" && operand})
	case ")", "]", "}":
		c.levels = c.levels[:len(c.levels)-1]
	case "and", "or", ",", ":", "=", "for", "if":
		c.top().nots, c.top().minuses = 0, 0
	case "not":
		c.top().nots++
	case "-":
		c.top().minuses++
		if operand {
			c.top().minuses = 0
		}
	case "==", "!=", "<", "<=", "+", "*", "//", "%":
		c.top().minuses = 0
	case "in":
		c.top().minuses = 0
	}
	c.ahead = word
}

// modelFault of a source, by the grammar and by counting.
func modelFault(s string) api.Fault {
	l, f := token.Split(s)
	if f.Err != api.OK {
		return f
	}
	e := newEarley()
	c := counts{levels: []level{{}}}
	for i, t := range l {
		names := words(l, i)
		if !e.takes(names...) {
			return api.Fault{Err: api.ErrForm, At: t.At}
		}
		if !c.begun && t.Kind != api.TokenIn && t.Kind != api.TokenOut {
			c.line, c.begun = names[0], true
		}
		if wrong := c.fault(t, names[0], len(names) > 1); wrong != api.OK {
			return api.Fault{Err: wrong, At: t.At}
		}
		c.count(names[0])
	}
	if !e.whole() {
		return api.Fault{Err: api.ErrForm, At: len(s)}
	}
	return api.Fault{}
}

// asModel holds a source's fault against the model, and tells it.
func asModel(t *testing.T, s string) api.Errno {
	l, f := syntax.Parse(s)
	if want := modelFault(s); f != want || f.Err != api.OK && len(l) > 0 {
		t.Fatalf("Parse(%q): %v, must be %v", s, f, want)
	}
	return f.Err
}
