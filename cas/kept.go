package cas

import (
	"container/heap"
	"iter"
	"strings"

	"foundry/api"
	"foundry/digest"
)

// kept text of a store.
type kept struct {
	digest, text string
	pins         int
	turn         int // in which it was put, or got, last
	place        int // in the line of those that may go, if it is not pinned
}

func isNoDigest(s string) bool { return !digest.Is(s) }

// isNone tells whether New did not make this store: such a one has room for nothing.
func (s *Store) isNone() bool { return s == nil || s.texts == nil }

// look for the text with a digest.
func (s *Store) look(d string) (*kept, api.Errno) {
	if isNoDigest(d) {
		return nil, api.ErrForm
	}
	if s.isNone() {
		return nil, api.ErrNone
	}
	t, there := s.texts[d]
	if !there {
		return nil, api.ErrNone
	}
	return t, api.OK
}

// use a text now: it is the last one to go.
func (s *Store) use(t *kept) {
	s.turn++
	t.turn = s.turn
	if t.pins == 0 {
		heap.Fix(&s.loose, t.place)
	}
}

// going tells, one by one, which text goes, until there is room for so many bytes more. Who is told must drop it: the next one is looked for among those that are left.
func (s *Store) going(size int) iter.Seq[*kept] {
	return func(goes func(*kept) bool) {
		for s.bytes+size > s.room && goes(s.loose[0]) {
		}
	}
}

func (s *Store) drop(t *kept) {
	heap.Remove(&s.loose, t.place)
	delete(s.texts, t.digest)
	s.bytes -= len(t.text)
}

func (s *Store) keep(d, text string) {
	s.turn++
	// The text may be a piece of a longer one, which the store is not to keep.
	t := &kept{digest: d, text: strings.Clone(text), turn: s.turn}
	s.texts[d] = t
	s.bytes += len(text)
	heap.Push(&s.loose, t)
}
