package syntax

import "foundry/api"

func (p *parser) source() []api.Stmt {
	var l []api.Stmt
	for len(p.tokens) > 0 {
		l = append(l, p.statement())
	}
	return l
}

func (p *parser) statement() api.Stmt {
	switch {
	case p.seesSign("if"):
		return p.condition()
	case p.seesSign("for"):
		return p.loop()
	case p.seesSign("def"):
		return p.definition()
	}
	s := p.small()
	p.take(api.TokenLine)
	return s
}

// block of what begins with a line that has come to its `:`.
func (p *parser) block() []api.Stmt {
	p.takeSign(":")
	p.take(api.TokenLine)
	p.take(api.TokenIn)
	p.blocks++
	var l []api.Stmt
	for !p.sees(api.TokenOut) {
		l = append(l, p.statement())
	}
	p.blocks--
	p.take(api.TokenOut)
	return l
}

func (p *parser) condition() api.Stmt {
	p.takeSign("if")
	s := api.Stmt{Kind: api.StmtIf, Expr: p.expression()}
	s.Body = p.block()
	if p.passSign("else") {
		s.Else = p.block()
	}
	return s
}

func (p *parser) loop() api.Stmt {
	p.takeSign("for")
	s := api.Stmt{Kind: api.StmtFor, Text: p.take(api.TokenName).Text}
	p.takeSign("in")
	s.Expr = p.expression()
	s.Body = p.block()
	return s
}

func (p *parser) definition() api.Stmt {
	p.giveUpIf(p.blocks > 0, api.ErrState)
	p.takeSign("def")
	s := api.Stmt{Kind: api.StmtDef, Text: p.take(api.TokenName).Text}
	p.takeSign("(")
	p.listed(")", func() { s.Names = append(s.Names, p.takeNew(s.Names)) })
	p.inDef = true
	s.Body = p.block()
	p.inDef = false
	return s
}

func (p *parser) small() api.Stmt {
	switch {
	case p.passSign("pass"):
		return api.Stmt{Kind: api.StmtPass}
	case p.seesSign("return"):
		return p.giving()
	case p.seesSign("load"):
		return p.loading()
	case p.seesSet():
		name := p.take(api.TokenName).Text
		p.takeSign("=")
		return api.Stmt{Kind: api.StmtSet, Text: name, Expr: p.expression()}
	}
	return api.Stmt{Kind: api.StmtExpr, Expr: p.expression()}
}

func (p *parser) giving() api.Stmt {
	p.giveUpIf(!p.inDef, api.ErrState)
	p.takeSign("return")
	if p.sees(api.TokenLine) {
		return api.Stmt{Kind: api.StmtReturn, Expr: api.Expr{Kind: api.ExprNone}}
	}
	return api.Stmt{Kind: api.StmtReturn, Expr: p.expression()}
}

func (p *parser) loading() api.Stmt {
	p.giveUpIf(p.blocks > 0, api.ErrState)
	p.takeSign("load")
	p.takeSign("(")
	s := api.Stmt{Kind: api.StmtLoad, Text: p.take(api.TokenText).Text}
	for len(s.Names) == 0 || !p.seesSign(")") {
		p.takeSign(",")
		p.giveUpIf(!isName(p.next().Text), api.ErrForm)
		s.Names = append(s.Names, p.take(api.TokenText).Text)
	}
	p.takeSign(")")
	return s
}
