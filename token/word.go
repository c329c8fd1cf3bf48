package token

import (
	"strconv"
	"strings"

	"foundry/api"
)

const (
	oneByteSigns = "=<+-*%()[]{},:"
	opening      = "([{"
	closing      = ")]}"
)

func isDigit(c byte) bool { return '0' <= c && c <= '9' }

func isLetter(c byte) bool { return 'a' <= c && c <= 'z' || 'A' <= c && c <= 'Z' || c == '_' }

func isOpening(c byte) bool { return strings.IndexByte(opening, c) >= 0 }

func isClosing(c byte) bool { return strings.IndexByte(closing, c) >= 0 }

func isWord(s string) bool {
	switch s {
	case "and", "or", "not", "in", "if", "else", "for", "def", "return", "pass", "True", "False", "None", "load":
		return true
	}
	return false
}

// begins tells whether a token begins where this rest of a source does.
func begins(rest string) bool {
	c := rest[0]
	return isLetter(c) || isDigit(c) || c == '"' || signSize(rest) > 0
}

// signSize is how many bytes the sign has with which a rest begins: none, if there is no sign.
func signSize(rest string) int {
	switch rest[:min(2, len(rest))] {
	case "==", "!=", "<=", "//":
		return 2
	}
	if strings.IndexByte(oneByteSigns, rest[0]) >= 0 {
		return 1
	}
	return 0
}

// reach is how far it holds of a rest's bytes.
func reach(rest string, holds func(c byte) bool) int {
	for i := range len(rest) {
		if !holds(rest[i]) {
			return i
		}
	}
	return len(rest)
}

// isNoInt tells whether the digits with which a rest begins are an int that may not stand there.
func isNoInt(rest string) bool {
	digits := rest[:reach(rest, isDigit)]
	n, err := strconv.Atoi(digits)
	return err != nil || n > api.MaxNumber || len(digits) > 1 && digits[0] == '0'
}

// take the bytes as far as it holds of them.
func (p *splitter) take(holds func(c byte) bool) string {
	begin := p.at
	p.at += reach(p.rest(), holds)
	return p.source[begin:p.at]
}

// token that begins here, as refuse has found.
func (p *splitter) token() {
	t := api.Token{At: p.at}
	switch c := p.source[p.at]; {
	case c == '"':
		t.Kind, t.Text = api.TokenText, p.text()
	case isDigit(c):
		t.Kind, t.Text = api.TokenInt, p.take(isDigit)
		t.Number, _ = strconv.Atoi(t.Text)
	case isLetter(c):
		t.Kind, t.Text = api.TokenName, p.take(func(c byte) bool { return isLetter(c) || isDigit(c) })
		if isWord(t.Text) {
			t.Kind = api.TokenWord
		}
	default:
		t.Kind, t.Text = api.TokenSign, p.sign()
	}
	p.tokens = append(p.tokens, t)
}

// sign that stands here; brackets are counted.
func (p *splitter) sign() string {
	s := p.rest()[:signSize(p.rest())]
	p.at += len(s)
	if isOpening(s[0]) {
		p.open++
	}
	if isClosing(s[0]) {
		p.open--
	}
	return s
}

// text is what stands between two quotes, the first of which is here.
func (p *splitter) text() string {
	var said strings.Builder
	p.at++
	for !p.sees('"') {
		if p.sees('\\') {
			p.at++
			said.WriteByte(p.escaped())
			continue
		}
		plain := p.take(func(c byte) bool { return c >= ' ' && c != '"' && c != '\\' })
		if plain == "" {
			p.giveUp(api.ErrForm)
		}
		said.WriteString(plain)
	}
	p.at++
	return said.String()
}

// escaped is the byte for which that stands which is here, behind a backslash.
func (p *splitter) escaped() byte {
	var c byte
	switch {
	case p.sees('n'):
		c = '\n'
	case p.sees('t'):
		c = '\t'
	case p.sees('\\'), p.sees('"'):
		c = p.source[p.at]
	default:
		p.giveUp(api.ErrForm)
	}
	p.at++
	return c
}
