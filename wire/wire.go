// Package wire: how things are packed: see doc/02-wire.md.
package wire

import (
	"strings"

	"foundry/api"
)

// IsName tells whether a text is a name.
func IsName(s string) bool {
	if s == "" || len(s) > api.MaxName || s == "." || s == ".." {
		return false
	}
	for i := range len(s) {
		if !isNameByte(s[i]) {
			return false
		}
	}
	return true
}

// IsPath tells whether a text is a path.
func IsPath(s string) bool {
	if len(s) > api.MaxPath {
		return false
	}
	for _, name := range strings.Split(s, "/") {
		if !IsName(name) {
			return false
		}
	}
	return true
}

// Number packed.
func Number(n int) (string, api.Errno) {
	if isNoNumber(n) {
		return "", api.ErrRange
	}
	return packed(n, (*packer).number), api.OK
}

// Texts packed.
func Texts(l []string) (string, api.Errno) {
	if e := textsError(l); e != api.OK {
		return "", e
	}
	return packed(l, (*packer).texts), api.OK
}

// Nodes packed.
func Nodes(l []api.Node) (string, api.Errno) {
	if e := nodesError(l); e != api.OK {
		return "", e
	}
	return packed(l, (*packer).nodes), api.OK
}

// Action packed.
func Action(a api.Action) (string, api.Errno) {
	if e := actionError(a); e != api.OK {
		return "", e
	}
	return packed(a, (*packer).action), api.OK
}

// Result packed.
func Result(r api.Result) (string, api.Errno) {
	if e := resultError(r); e != api.OK {
		return "", e
	}
	return packed(r, (*packer).result), api.OK
}

// ReadNumber with which a text begins.
func ReadNumber(s string) (int, int, api.Errno) {
	size, ends := numberSize(s)
	switch {
	case !ends && size <= numberBytes:
		return 0, 0, api.ErrForm
	case ends && size > 1 && s[size-1] == 0:
		return 0, 0, api.ErrForm
	case size > numberBytes:
		return 0, 0, api.ErrRange
	}
	n := 0
	for i := range size {
		n |= int(s[i]%more) << (numberBits * i)
	}
	if isNoNumber(n) {
		return 0, 0, api.ErrRange
	}
	return n, size, api.OK
}

// ReadTexts of a text.
func ReadTexts(s string) ([]string, api.Errno) {
	return whole(s, (*reader).texts, textsError)
}

// ReadNodes of a text.
func ReadNodes(s string) ([]api.Node, api.Errno) {
	return whole(s, (*reader).nodes, nodesError)
}

// ReadAction of a text.
func ReadAction(s string) (api.Action, api.Errno) {
	return whole(s, (*reader).action, actionError)
}

// ReadResult of a text.
func ReadResult(s string) (api.Result, api.Errno) {
	return whole(s, (*reader).result, resultError)
}
