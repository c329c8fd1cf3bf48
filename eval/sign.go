package eval

import (
	"cmp"
	"slices"
	"strings"

	"foundry/api"
)

// newSigns: what is done by each sign, and by each word that stands like one.
func (r *runner) newSigns() map[string]func(a, b value) value {
	return map[string]func(a, b value) value{
		"or":  func(_, b value) value { return b },
		"and": func(_, b value) value { return b },
		"==":  func(a, b value) value { return truth(r.same(a, b)) },
		"!=":  func(a, b value) value { return truth(!r.same(a, b)) },
		"<":   func(a, b value) value { return truth(compare(a, b) < 0) },
		"<=":  func(a, b value) value { return truth(compare(a, b) <= 0) },
		"in":  func(a, b value) value { return truth(r.isIn(a, b)) },
		"+":   plus,
		"-":   func(a, b value) value { return newNumber(asInt(a) - asInt(b)) },
		"*":   func(a, b value) value { return times(asInt(a), asInt(b)) },
		"//":  func(a, b value) value { return number(quotient(asInt(a), asInt(b))) },
		"%":   func(a, b value) value { return number(asInt(a) - asInt(b)*quotient(asInt(a), asInt(b))) },
	}
}

// same tells whether two values are.
func (r *runner) same(a, b value) bool {
	r.burn()
	if a.kind() != b.kind() {
		return false
	}
	switch a := a.(type) {
	case list:
		return r.allSame(a, b.(list), func(int) bool { return true })
	case *dictionary:
		other := b.(*dictionary)
		return r.allSame(a.things, other.things, func(i int) bool { return a.keys[i] == other.keys[i] })
	case *function:
		panic(api.ErrType)
	}
	return a == b
}

// allSame tells whether two lists are, where at each place the keys are the same, too.
func (r *runner) allSame(a, b list, sameKeys func(i int) bool) bool {
	if len(a) != len(b) {
		return false
	}
	for i := range a {
		if !sameKeys(i) || !r.same(a[i], b[i]) {
			return false
		}
	}
	return true
}

// compare two ints, or two texts.
func compare(a, b value) int {
	if s, is := a.(text); is {
		return cmp.Compare(string(s), asText(b))
	}
	return cmp.Compare(asInt(a), asInt(b))
}

func (r *runner) isIn(a, b value) bool {
	switch b := b.(type) {
	case text:
		return strings.Contains(string(b), asText(a))
	case *dictionary:
		_, there := b.places[asText(a)]
		return there
	}
	return slices.ContainsFunc(asList(b), func(thing value) bool { return r.same(a, thing) })
}

func plus(a, b value) value {
	switch a := a.(type) {
	case text:
		return join("", []string{string(a), asText(b)})
	case list:
		return newList(slices.Concat(a, asList(b)))
	}
	return newNumber(asInt(a) + asInt(b))
}

// times: ints of 53 bits may make one that has too many for the machine.
func times(a, b int) number {
	giveUpIf(a != 0 && max(b, -b) > api.MaxNumber/max(a, -a), api.ErrRange)
	return number(a * b)
}

// quotient is rounded to what is less; Go's is rounded to nought.
func quotient(a, b int) int {
	giveUpIf(b == 0, api.ErrRange)
	if a%b != 0 && (a < 0) != (b < 0) {
		return a/b - 1
	}
	return a / b
}
