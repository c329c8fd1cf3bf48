package eval

import (
	"strconv"
	"strings"

	"foundry/api"
	"foundry/syntax"
)

// writer of values, as `str` writes them.
type writer struct {
	strings.Builder
	begin func() // is done where a value begins
}

// written is how a value is; a text, as long as it stands in nothing, is written as it is.
func written(v value, begin func()) string {
	if s, is := v.(text); is {
		begin()
		return string(s)
	}
	w := writer{begin: begin}
	w.value(v)
	return w.String()
}

func (w *writer) put(s string) {
	w.WriteString(s)
	giveUpIf(w.Len() > api.MaxText, api.ErrMany)
}

func (w *writer) value(v value) {
	w.begin()
	switch v := v.(type) {
	case none:
		w.put("None")
	case truth:
		w.truth(bool(v))
	case number:
		w.put(strconv.Itoa(int(v)))
	case text:
		w.put(syntax.Quote(string(v)))
	case list:
		w.listed("[", v, "]", func(int) {})
	case *dictionary:
		w.listed("{", v.things, "}", func(i int) { w.put(syntax.Quote(v.keys[i]) + ": ") })
	case *function:
		panic(api.ErrType)
	}
}

func (w *writer) truth(is bool) {
	if is {
		w.put("True")
	} else {
		w.put("False")
	}
}

// listed are things, with `, ` between them, and ahead of each what stands there.
func (w *writer) listed(opening string, l list, closing string, ahead func(i int)) {
	w.put(opening)
	for i, v := range l {
		if i > 0 {
			w.put(", ")
		}
		ahead(i)
		w.value(v)
	}
	w.put(closing)
}
