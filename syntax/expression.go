package syntax

import "foundry/api"

// joined is what stands with some signs between, joined from the left.
func (p *parser) joined(part func() api.Expr, signs ...string) api.Expr {
	left := part()
	for p.seesSign(signs...) {
		left = p.pair(left, part)
	}
	return left
}

// pair of what is ahead of a sign, which is the next token, and of what is behind it.
func (p *parser) pair(left api.Expr, part func() api.Expr) api.Expr {
	sign := p.next().Text
	p.takeSign(sign)
	return api.Expr{Kind: api.ExprBinary, Text: sign, Kids: []api.Expr{left, part()}}
}

// deeper is a part within one more.
func (p *parser) deeper(part func() api.Expr) api.Expr {
	p.deep++
	e := part()
	p.deep--
	return e
}

// refuseDeep gives up where an expression would begin too deep: at a token with which one does. With any other one a source cannot go on, however deep it stands.
func (p *parser) refuseDeep(ahead ...string) {
	begins := p.seesAtom() || p.seesSign(ahead...)
	p.giveUpIf(begins && p.deep == api.MaxNest, api.ErrMany)
}

func (p *parser) expression() api.Expr {
	p.refuseDeep("not", "-")
	return p.deeper(func() api.Expr {
		return p.joined(func() api.Expr {
			return p.joined(func() api.Expr { return p.negation() }, "and")
		}, "or")
	})
}

func (p *parser) negation() api.Expr {
	if !p.passSign("not") {
		return p.comparison()
	}
	p.refuseDeep("not", "-")
	kid := p.deeper(func() api.Expr { return p.negation() })
	return api.Expr{Kind: api.ExprNot, Kids: []api.Expr{kid}}
}

// comparison has one sign at most: it is not joined any further.
func (p *parser) comparison() api.Expr {
	left := p.sum()
	if p.seesSign("==", "!=", "<", "<=", "in") {
		return p.pair(left, func() api.Expr { return p.sum() })
	}
	return left
}

func (p *parser) sum() api.Expr {
	return p.joined(func() api.Expr {
		return p.joined(func() api.Expr { return p.unary() }, "*", "//", "%")
	}, "+", "-")
}

func (p *parser) unary() api.Expr {
	if !p.passSign("-") {
		return p.post()
	}
	p.refuseDeep("-")
	kid := p.deeper(func() api.Expr { return p.unary() })
	return api.Expr{Kind: api.ExprMinus, Kids: []api.Expr{kid}}
}

func (p *parser) post() api.Expr {
	e := p.atom()
	for {
		switch {
		case p.passSign("("):
			e = p.call(e)
		case p.passSign("["):
			e = api.Expr{Kind: api.ExprIndex, Kids: []api.Expr{e, p.expression()}}
			p.takeSign("]")
		default:
			return e
		}
	}
}

// call of something, behind its `(`.
func (p *parser) call(called api.Expr) api.Expr {
	e := api.Expr{Kind: api.ExprCall, Kids: []api.Expr{called}}
	p.listed(")", func() {
		if p.seesSet() {
			e.Names = append(e.Names, p.takeNew(e.Names))
			p.takeSign("=")
		} else {
			p.giveUpIf(len(e.Names) > 0, api.ErrForm)
		}
		e.Kids = append(e.Kids, p.expression())
	})
	return e
}

// seesAtom tells whether the next token is one with which an atom begins.
func (p *parser) seesAtom() bool {
	switch p.next().Kind {
	case api.TokenName, api.TokenInt, api.TokenText:
		return true
	}
	return p.seesSign("True", "False", "None", "(", "[", "{")
}

func (p *parser) atom() api.Expr {
	switch p.next().Kind {
	case api.TokenName:
		return api.Expr{Kind: api.ExprName, Text: p.take(api.TokenName).Text}
	case api.TokenInt:
		return api.Expr{Kind: api.ExprInt, Number: p.take(api.TokenInt).Number}
	case api.TokenText:
		return api.Expr{Kind: api.ExprText, Text: p.take(api.TokenText).Text}
	}
	return p.signAtom()
}

// signAtom is an atom that begins with a sign or a word.
func (p *parser) signAtom() api.Expr {
	switch {
	case p.passSign("True"):
		return api.Expr{Kind: api.ExprTrue}
	case p.passSign("False"):
		return api.Expr{Kind: api.ExprFalse}
	case p.passSign("None"):
		return api.Expr{Kind: api.ExprNone}
	case p.passSign("["):
		return p.list()
	case p.passSign("{"):
		return p.dictionary()
	}
	p.takeSign("(")
	e := p.expression()
	p.takeSign(")")
	return e
}

// list behind its `[`; it may turn out to be one that is made of each of something.
func (p *parser) list() api.Expr {
	e := api.Expr{Kind: api.ExprList}
	p.listed("]", func() {
		e.Kids = append(e.Kids, p.expression())
		if len(e.Kids) == 1 && p.passSign("for") {
			p.each(&e)
		}
	})
	return e
}

// each, behind what is made and `for`.
func (p *parser) each(e *api.Expr) {
	e.Kind, e.Text = api.ExprEach, p.take(api.TokenName).Text
	p.takeSign("in")
	e.Kids = append(e.Kids, p.expression())
	if p.passSign("if") {
		e.Kids = append(e.Kids, p.expression())
	}
	p.giveUpIf(!p.seesSign("]"), api.ErrForm)
}

func (p *parser) dictionary() api.Expr {
	e := api.Expr{Kind: api.ExprDict}
	p.listed("}", func() {
		e.Kids = append(e.Kids, p.expression())
		p.takeSign(":")
		e.Kids = append(e.Kids, p.expression())
	})
	return e
}
