package wire

import (
	"strings"

	"foundry/api"
)

// packer writes how things are packed, which are known to be of their form.
type packer struct {
	strings.Builder
}

// packed is how a thing is packed by one of a packer's methods.
func packed[T any](v T, pack func(*packer, T)) string {
	var p packer
	pack(&p, v)
	return p.String()
}

// packList packs how many there are, and each.
func packList[T any](p *packer, l []T, pack func(*packer, T)) {
	p.number(len(l))
	for _, v := range l {
		pack(p, v)
	}
}

func (p *packer) number(n int) {
	for n >= more {
		p.WriteByte(byte(n%more + more))
		n /= more
	}
	p.WriteByte(byte(n))
}

func (p *packer) text(s string) {
	p.number(len(s))
	p.WriteString(s)
}

func (p *packer) texts(l []string) { packList(p, l, (*packer).text) }

func (p *packer) node(n api.Node) {
	p.text(n.Name)
	p.number(n.Kind)
	p.text(n.Digest)
}

func (p *packer) nodes(l []api.Node) { packList(p, l, (*packer).node) }

func (p *packer) action(a api.Action) {
	p.texts(a.Command)
	p.text(a.Input)
	p.texts(a.Outputs)
	p.number(a.Fuel)
}

func (p *packer) result(r api.Result) {
	p.number(r.Code)
	p.text(r.Output)
	p.number(r.Spent)
}
