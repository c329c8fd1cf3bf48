package eval

import "foundry/api"

// value is one of the types below: none, truth, number, text, list, *dictionary or *function. What a value has is never changed (but whether a function is at work), so that values may share it.
type value interface{ kind() int }

const (
	noneKind = iota
	truthKind
	numberKind
	textKind
	listKind
	dictionaryKind
	functionKind
)

type (
	none   struct{}
	truth  bool
	number int
	text   string
	list   []value
)

// dictionary has its keys in the order in which they came, and what each has at the same place.
type dictionary struct {
	keys   []string
	things list
	places map[string]int
}

// scope is names, and what they have.
type scope map[string]value

func (none) kind() int        { return noneKind }
func (truth) kind() int       { return truthKind }
func (number) kind() int      { return numberKind }
func (text) kind() int        { return textKind }
func (list) kind() int        { return listKind }
func (*dictionary) kind() int { return dictionaryKind }
func (*function) kind() int   { return functionKind }

func isTrue(v value) bool {
	switch v := v.(type) {
	case none:
		return false
	case truth:
		return bool(v)
	case number:
		return v != 0
	case text:
		return v != ""
	case list:
		return len(v) > 0
	case *dictionary:
		return len(v.keys) > 0
	}
	return true
}

// asInt is the int that a value must be.
func asInt(v value) int {
	n, is := v.(number)
	giveUpIf(!is, api.ErrType)
	return int(n)
}

// asText is the text that a value must be.
func asText(v value) string {
	s, is := v.(text)
	giveUpIf(!is, api.ErrType)
	return string(s)
}

// asList is the list that a value must be.
func asList(v value) list {
	l, is := v.(list)
	giveUpIf(!is, api.ErrType)
	return l
}

// asTexts is the list of texts that a value must be.
func asTexts(v value) []string {
	var texts []string
	for _, thing := range asList(v) {
		texts = append(texts, asText(thing))
	}
	return texts
}

func listOfTexts(texts []string) list {
	var l list
	for _, s := range texts {
		l = append(l, text(s))
	}
	return l
}

// things of a list, or keys of a dictionary, which a value must be.
func things(v value) list {
	if d, is := v.(*dictionary); is {
		return listOfTexts(d.keys)
	}
	return asList(v)
}

// newNumber, if it is not too great.
func newNumber(n int) number {
	giveUpIf(n < -api.MaxNumber || n > api.MaxNumber, api.ErrRange)
	return number(n)
}

// newList, if it is not too long.
func newList(l list) list {
	giveUpIf(len(l) > api.MaxItems, api.ErrMany)
	return l
}

// add a key that must be new.
func (d *dictionary) add(key string) {
	_, there := d.places[key]
	giveUpIf(there, api.ErrTwice)
	d.places[key] = len(d.keys)
	d.keys = append(d.keys, key)
}
