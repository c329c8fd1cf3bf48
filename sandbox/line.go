package sandbox

import (
	"slices"
	"strings"

	"foundry/api"
	"foundry/wire"
)

// line of a command, taken apart; a line has only some of these.
type line struct {
	word       string // its first one
	r, s       int    // registers
	path, text string
	n, m       int
}

// part takes what stands at a place of a line, if such may stand there.
type part func(l *line, given string) bool

// maxDigits of a number, maxEnd by which a line may end.
const (
	maxDigits = 6
	maxEnd    = 99
)

// whole tree, as a directory.
const whole = "."

func isTooLong(s string) bool { return len(s) > api.MaxText }

// linesOf a command; or the number of the line that is wrong, and why it is.
func linesOf(command []string) ([]line, int, api.Errno) {
	if len(command) > api.MaxFiles || slices.ContainsFunc(command, isTooLong) {
		return nil, 0, api.ErrMany
	}
	forms := newForms(len(command))
	var lines []line
	for i, s := range command {
		l, is := lineOf(s, forms)
		if !is {
			return nil, i, api.ErrForm
		}
		lines = append(lines, l)
	}
	return lines, 0, api.OK
}

// newForms: what stands behind the first word of each line, in a command of so many lines.
func newForms(lines int) map[string][]part {
	r := func(l *line, given string) (is bool) { l.r, is = register(given); return is }
	s := func(l *line, given string) (is bool) { l.s, is = register(given); return is }
	n := func(l *line, given string) (is bool) { l.n, is = number(given); return is }
	m := func(l *line, given string) (is bool) { l.m, is = number(given); return is }
	at := func(l *line, given string) bool { return n(l, given) && l.n <= lines }
	end := func(l *line, given string) bool { return n(l, given) && l.n <= maxEnd }
	text := func(l *line, given string) bool { l.text = given; return true }
	path := func(l *line, given string) bool { l.path = given; return wire.IsPath(given) }
	dir := func(l *line, given string) bool { return path(l, given) || given == whole }
	return map[string][]part{
		"set":  {r, text},
		"read": {r, path},
		"list": {r, dir},
		"join": {r, s},
		"cut":  {r, n, m},
		"size": {r, s},
		"sum":  {r},
		"make": {path, r},
		"run":  {path, r},
		"same": {r, s, at},
		"less": {r, s, at},
		"goto": {at},
		"exit": {end},
	}
}

func lineOf(s string, forms map[string][]part) (line, bool) {
	word, _, _ := strings.Cut(s, " ")
	form, there := forms[word]
	if !there {
		return line{}, false
	}
	// The last part has all that is left: only a text may have blanks, which every other part refuses.
	parts := strings.SplitN(s, " ", 1+len(form))[1:]
	if len(parts) < len(form) {
		return line{}, false
	}
	l := line{word: word}
	for i, takes := range form {
		if !takes(&l, parts[i]) {
			return line{}, false
		}
	}
	return l, true
}

func register(s string) (int, bool) {
	if len(s) != 1 || s[0] < 'a' || s[0] >= 'a'+registers {
		return 0, false
	}
	return int(s[0] - 'a'), true
}

func number(s string) (int, bool) {
	if s == "" || len(s) > maxDigits || len(s) > 1 && s[0] == '0' {
		return 0, false
	}
	n := 0
	for _, digit := range s {
		if digit < '0' || digit > '9' {
			return 0, false
		}
		n = 10*n + int(digit-'0')
	}
	return n, true
}
