package syntax

import (
	"slices"

	"foundry/api"
	"foundry/token"
)

// parser goes through the tokens of a source from the left; it gives up by a panic with the first fault that it meets.
type parser struct {
	tokens []api.Token // those that are not taken yet
	end    int         // where the source ends
	blocks int         // in how many blocks one is
	inDef  bool
	deep   int // within how many expressions one is, those behind `not` and `-` with them
}

// next token; behind the last one there is one of no kind.
func (p *parser) next() api.Token {
	if len(p.tokens) == 0 {
		return api.Token{At: p.end}
	}
	return p.tokens[0]
}

// giveUp at the next token.
func (p *parser) giveUp(e api.Errno) { panic(api.Fault{Err: e, At: p.next().At}) }

func (p *parser) giveUpIf(wrong bool, e api.Errno) {
	if wrong {
		p.giveUp(e)
	}
}

func (p *parser) sees(kind int) bool { return p.next().Kind == kind }

// take a token of this kind, which must be the next one.
func (p *parser) take(kind int) api.Token {
	p.giveUpIf(!p.sees(kind), api.ErrForm)
	t := p.next()
	p.tokens = p.tokens[1:]
	return t
}

// isSign tells whether a token is one of some signs and words. (A text may say the same as one.)
func isSign(t api.Token, signs ...string) bool {
	return (t.Kind == api.TokenSign || t.Kind == api.TokenWord) && slices.Contains(signs, t.Text)
}

func (p *parser) seesSign(signs ...string) bool { return isSign(p.next(), signs...) }

// takeSign that must be the next token.
func (p *parser) takeSign(sign string) { p.giveUpIf(!p.passSign(sign), api.ErrForm) }

// passSign takes a sign, if it is the next token, and tells whether it was.
func (p *parser) passSign(sign string) bool {
	if !p.seesSign(sign) {
		return false
	}
	p.tokens = p.tokens[1:]
	return true
}

// seesSet tells whether a name and `=` come next.
func (p *parser) seesSet() bool {
	return len(p.tokens) > 1 && p.sees(api.TokenName) && isSign(p.tokens[1], "=")
}

// takeNew name, which may not be one of those that are there.
func (p *parser) takeNew(there []string) string {
	t := p.next()
	p.giveUpIf(t.Kind == api.TokenName && slices.Contains(there, t.Text), api.ErrTwice)
	return p.take(api.TokenName).Text
}

// listed takes what stands up to a closing sign, with `,` between each.
func (p *parser) listed(closing string, each func()) {
	for first := true; !p.passSign(closing); first = false {
		if !first {
			p.takeSign(",")
		}
		each()
	}
}

// isName tells whether a text is just a name, by what Split makes of it.
func isName(s string) bool {
	l, _ := token.Split(s)
	return len(l) > 0 && l[0].Kind == api.TokenName && l[0].Text == s
}
