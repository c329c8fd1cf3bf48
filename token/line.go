package token

import (
	"slices"

	"foundry/api"
)

// splitter goes through a source from the left; it gives up by a panic with the first fault that it meets.
type splitter struct {
	source string
	at     int
	tokens []api.Token
	ins    []int // how far in the lines are to which one may come back, the one ahead last
	open   int   // how many brackets are
}

// giveUp at the byte where one is.
func (p *splitter) giveUp(e api.Errno) { panic(api.Fault{Err: e, At: p.at}) }

func (p *splitter) add(kind int) { p.tokens = append(p.tokens, api.Token{Kind: kind, At: p.at}) }

func (p *splitter) ended() bool { return p.at == len(p.source) }

func (p *splitter) rest() string { return p.source[p.at:] }

// sees tells whether this byte stands here.
func (p *splitter) sees(c byte) bool { return !p.ended() && p.source[p.at] == c }

// in is how far the line ahead is.
func (p *splitter) in() int { return p.ins[len(p.ins)-1] }

func (p *splitter) lines() {
	for !p.ended() {
		p.line()
		if !p.ended() {
			p.at++
		}
	}
	p.come(0)
}

// line is taken up to its end, with all lines that its brackets go on over.
func (p *splitter) line() {
	begin, had := p.at, len(p.tokens)
	p.skip()
	in := p.at - begin
	for !p.ended() && !p.sees('\n') {
		p.refuse(in)
		p.come(in)
		p.token()
		p.skip()
		in = p.in()
	}
	if p.open > 0 {
		p.giveUp(api.ErrForm)
	}
	if len(p.tokens) > had {
		p.add(api.TokenLine)
	}
}

// skip blanks and what is left out.
func (p *splitter) skip() {
	for {
		p.take(func(c byte) bool { return c == ' ' || c == '\n' && p.open > 0 })
		if !p.sees('#') {
			return
		}
		p.take(func(c byte) bool { return c != '\n' })
	}
}

// refuse what may not stand here, where a token is to begin, of a line so far in. Several faults may be at this byte: they are asked for in the order in which the document names them, and ahead of those that a text has further on.
func (p *splitter) refuse(in int) {
	c := p.source[p.at]
	switch {
	case !begins(p.rest()), isClosing(c) && p.open == 0:
		p.giveUp(api.ErrForm)
	case in < p.in() && !slices.Contains(p.ins, in):
		p.giveUp(api.ErrState)
	case isDigit(c) && isNoInt(p.rest()):
		p.giveUp(api.ErrRange)
	case isOpening(c) && p.open == api.MaxNest, in > p.in() && len(p.ins) > api.MaxNest:
		p.giveUp(api.ErrMany)
	}
}

// come so far in, or out to there.
func (p *splitter) come(in int) {
	if in > p.in() {
		p.ins = append(p.ins, in)
		p.add(api.TokenIn)
	}
	for in < p.in() {
		p.ins = p.ins[:len(p.ins)-1]
		p.add(api.TokenOut)
	}
}
