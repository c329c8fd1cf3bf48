// Package digest: digests: see doc/01-digest.md.
package digest

import (
	"slices"

	"foundry/api"
)

// What is summed begins with another byte for a text than for a pair, so that no pair passes for a text.
const (
	textMark = "\x00"
	pairMark = "\x01"
)

// Sum of a text.
func Sum(s string) string {
	state := newState()
	whole := len(s) - len(s)%blockSize
	for at := 0; at < whole; at += blockSize {
		state = mixed(state, s[at:at+blockSize])
	}
	// Only what is left over is joined with its ending: a long text is not copied.
	tail := s[whole:] + ending(len(s))
	for at := 0; at < len(tail); at += blockSize {
		state = mixed(state, tail[at:at+blockSize])
	}
	return digits(state)
}

// Is a text a digest?
func Is(s string) bool {
	if len(s) != digestSize {
		return false
	}
	for i := range len(s) {
		if !isDigit(s[i]) {
			return false
		}
	}
	return true
}

// Pair of digests.
func Pair(a, b string) (string, api.Errno) {
	if !Is(a) || !Is(b) {
		return "", api.ErrForm
	}
	return pair(a, b), api.OK
}

// Root of texts.
func Root(l []string) (string, api.Errno) {
	if tooMany(l) {
		return "", api.ErrMany
	}
	return root(l), api.OK
}

// Proof of a text.
func Proof(l []string, i int) ([]string, api.Errno) {
	if tooMany(l) {
		return nil, api.ErrMany
	}
	if i < 0 || i >= len(l) {
		return nil, api.ErrRange
	}
	return proof(l, i), api.OK
}

// Shows a proof a text?
func Shows(root, text string, i, n int, proof []string) (bool, api.Errno) {
	if !Is(root) || slices.ContainsFunc(proof, isNone) {
		return false, api.ErrForm
	}
	if tooLong(text) || n < 1 || n > api.MaxTexts {
		return false, api.ErrMany
	}
	if i < 0 || i >= n {
		return false, api.ErrRange
	}
	if len(proof) != proofSize(i, n) {
		return false, api.OK
	}
	return shownRoot(text, i, n, proof) == root, api.OK
}

func isNone(s string) bool { return !Is(s) }

func tooLong(s string) bool { return len(s) > api.MaxText }

func tooMany(l []string) bool {
	return len(l) > api.MaxTexts || slices.ContainsFunc(l, tooLong)
}
