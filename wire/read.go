package wire

import (
	"strings"

	"foundry/api"
)

// A number's bytes have seven bits each; more is the bit that all but the last one have set, and numberBytes how many bytes there may be.
const (
	numberBits  = 7
	more        = 1 << numberBits
	numberBytes = 8
)

// numberSize is how many bytes the number has with which a text begins, and whether it ends there.
func numberSize(s string) (int, bool) {
	for i := range len(s) {
		if s[i] < more {
			return i + 1, true
		}
	}
	return len(s), false
}

// reader takes packed things from a text; it gives up by a panic where there is none.
type reader struct {
	rest string
}

// whole is that of which a text, as a whole, is packed, read by one of a reader's methods. What could not have been packed is not read either.
func whole[T any](s string, read func(*reader) T, wrong func(T) api.Errno) (v T, e api.Errno) {
	defer func() {
		if recover() != nil {
			var none T
			v, e = none, api.ErrForm
		}
	}()
	r := reader{rest: s}
	v = read(&r)
	if r.rest != "" || wrong(v) != api.OK {
		giveUp()
	}
	return v, api.OK
}

// readList reads how many there are, and each. That there are too many is told at once: such a text may be long.
func readList[T any](r *reader, most int, read func(*reader) T) []T {
	n := r.number()
	if n > most {
		giveUp()
	}
	l := make([]T, 0, n)
	for range n {
		l = append(l, read(r))
	}
	return l
}

func giveUp() { panic(api.ErrForm) }

func (r *reader) number() int {
	n, size, e := ReadNumber(r.rest)
	if e != api.OK {
		giveUp()
	}
	r.rest = r.rest[size:]
	return n
}

func (r *reader) text() string {
	n := r.number()
	if n > len(r.rest) {
		giveUp()
	}
	// A piece of the text would keep the whole of it.
	s := strings.Clone(r.rest[:n])
	r.rest = r.rest[n:]
	return s
}

func (r *reader) texts() []string { return readList(r, api.MaxTexts, (*reader).text) }

func (r *reader) node() api.Node {
	return api.Node{Name: r.text(), Kind: r.number(), Digest: r.text()}
}

func (r *reader) nodes() []api.Node { return readList(r, api.MaxFiles, (*reader).node) }

func (r *reader) action() api.Action {
	return api.Action{Command: r.texts(), Input: r.text(), Outputs: r.texts(), Fuel: r.number()}
}

func (r *reader) result() api.Result {
	return api.Result{Code: r.number(), Output: r.text(), Spent: r.number()}
}
