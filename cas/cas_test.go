package cas_test

import (
	"fmt"
	"slices"
	"strings"
	"testing"

	"foundry/api"
	"foundry/cas"
	"foundry/digest"
)

// draw numbers that are the same each time.
type draw uint64

func (d *draw) below(n int) int {
	*d = *d*6364136223846793005 + 1442695040888963407
	return int(uint64(*d) >> 33 % uint64(n))
}

// noDigests are texts that are none.
func noDigests() []string {
	d := digest.Sum("a")
	return []string{"", "x", d[1:], d + "0", strings.ToUpper(d), "g" + d[1:]}
}

func newStore(t *testing.T, room int) *cas.Store {
	t.Helper()
	s, e := cas.New(room)
	if s == nil || e != api.OK {
		t.Fatalf("New(%d): %v %d", room, s, e)
	}
	return s
}

func put(t *testing.T, s *cas.Store, texts ...string) {
	t.Helper()
	for _, x := range texts {
		if d, e := s.Put(x); d != digest.Sum(x) || e != api.OK {
			t.Fatalf("Put(%.50q) = %q %d", x, d, e)
		}
	}
}

func pin(t *testing.T, s *cas.Store, text string) {
	t.Helper()
	if e := s.Pin(digest.Sum(text)); e != api.OK {
		t.Fatalf("Pin of %q: %d", text, e)
	}
}

func unpin(t *testing.T, s *cas.Store, text string) {
	t.Helper()
	if e := s.Unpin(digest.Sum(text)); e != api.OK {
		t.Fatalf("Unpin of %q: %d", text, e)
	}
}

// has tells that a store has just these of texts; it looks without getting.
func has(t *testing.T, s *cas.Store, all string, there string) {
	t.Helper()
	bytes, many := 0, 0
	for _, x := range strings.Fields(all) {
		want := api.Found{}
		if slices.Contains(strings.Fields(there), x) {
			want = api.Found{There: true, Size: len(x)}
			bytes, many = bytes+len(x), many+1
		}
		got, e := s.Find(digest.Sum(x))
		got.Pins = 0
		if got != want || e != api.OK {
			t.Errorf("Find of %q: %v %d, must be %v", x, got, e, want)
		}
	}
	if b, n := s.Room(); b != bytes || n != many {
		t.Errorf("Room: %d %d, must be %d %d", b, n, bytes, many)
	}
}

func TestD1New(t *testing.T) {
	for _, c := range []struct {
		room int
		e    api.Errno
	}{
		{0, api.OK},
		{1, api.OK},
		{api.MaxNumber, api.OK},
		{api.MaxNumber + 1, api.ErrRange},
		{1<<63 - 1, api.ErrRange},
		{-1, api.ErrRange},
		{-1 << 63, api.ErrRange},
	} {
		s, e := cas.New(c.room)
		if (s == nil) != (c.e != api.OK) || e != c.e {
			t.Errorf("New(%d): %v %d", c.room, s, e)
		}
	}
}

func TestD1PutKeepsATextOnce(t *testing.T) {
	s := newStore(t, 10)
	put(t, s, "aaa", "aaa", "bb", "aaa")
	if b, n := s.Room(); b != 5 || n != 2 {
		t.Errorf("Room: %d %d", b, n)
	}
	for _, x := range []string{"aaa", "bb"} {
		if got, e := s.Get(digest.Sum(x)); got != x || e != api.OK {
			t.Errorf("Get of %q: %q %d", x, got, e)
		}
	}
}

func TestD1PutOfTheLongest(t *testing.T) {
	longest := strings.Repeat("x", api.MaxText)
	s := newStore(t, api.MaxNumber)
	put(t, s, longest)
	if d, e := s.Put(longest + "x"); d != "" || e != api.ErrMany {
		t.Errorf("Put of too long a text: %q %d", d, e)
	}
	s = newStore(t, api.MaxText-1)
	put(t, s, "a")
	if d, e := s.Put(longest); d != "" || e != api.ErrMany {
		t.Errorf("Put of a text for which there is no room: %q %d", d, e)
	}
	has(t, s, "a", "a")
}

func TestD1AStoreWithoutRoomKeepsAnEmptyText(t *testing.T) {
	s := newStore(t, 0)
	if d, e := s.Put("a"); d != "" || e != api.ErrMany {
		t.Errorf("Put: %q %d", d, e)
	}
	put(t, s, "")
	if x, e := s.Get(digest.Sum("")); x != "" || e != api.OK {
		t.Errorf("Get: %q %d", x, e)
	}
	if f, e := s.Find(digest.Sum("")); f != (api.Found{There: true}) || e != api.OK {
		t.Errorf("Find: %v %d", f, e)
	}
	if b, n := s.Room(); b != 0 || n != 1 {
		t.Errorf("Room: %d %d", b, n)
	}
}

func TestD1WhatWasPutOrGotLongestAgoGoesFirst(t *testing.T) {
	const all = "a bb cc ddd eeee ffffffff"
	s := newStore(t, 8)
	put(t, s, "a", "bb", "cc", "ddd")
	has(t, s, all, "a bb cc ddd")
	s.Get(digest.Sum("a"))
	put(t, s, "bb")
	put(t, s, "eeee")
	has(t, s, all, "a bb eeee")
	put(t, s, "ddd")
	has(t, s, all, "eeee ddd")
	s.Get(digest.Sum("eeee"))
	put(t, s, "bb")
	has(t, s, all, "eeee bb")
	put(t, s, "ffffffff")
	has(t, s, all, "ffffffff")
}

func TestD1AnEmptyTextGoesInItsTurn(t *testing.T) {
	s := newStore(t, 3)
	put(t, s, "", "aaa", "b")
	if got, e := s.Find(digest.Sum("")); got.There || e != api.OK {
		t.Errorf("an empty text that was put first is there: %v %d", got, e)
	}
	s = newStore(t, 3)
	put(t, s, "aaa", "", "b")
	if got, e := s.Find(digest.Sum("")); !got.There || e != api.OK {
		t.Errorf("an empty text went though there was enough room: %v %d", got, e)
	}
}

func TestD1FindMissingPinAndUnpinAreNoUse(t *testing.T) {
	a := digest.Sum("a")
	for i, do := range []func(s *cas.Store){
		func(s *cas.Store) { s.Find(a) },
		func(s *cas.Store) { s.Missing([]string{a}) },
		func(s *cas.Store) { s.Room() },
		func(s *cas.Store) { s.Pin(a); s.Unpin(a) },
		func(s *cas.Store) { s.Pin(a); s.Pin(a); s.Unpin(a); s.Unpin(a) },
		func(s *cas.Store) { s.Unpin(a) },
	} {
		s := newStore(t, 3)
		put(t, s, "a", "b", "c")
		do(s)
		put(t, s, "d")
		if has(t, s, "a b c d", "b c d"); t.Failed() {
			t.Fatalf("%d: it counts as use", i)
		}
	}
}

func TestD1D2WhatIsPinnedIsUsedToo(t *testing.T) {
	s := newStore(t, 3)
	put(t, s, "a", "b", "c")
	pin(t, s, "a")
	s.Get(digest.Sum("a"))
	unpin(t, s, "a")
	put(t, s, "d")
	has(t, s, "a b c d", "a c d")
	pin(t, s, "c")
	put(t, s, "c")
	unpin(t, s, "c")
	put(t, s, "b")
	has(t, s, "a b c d", "b c d")
}

func TestD1NothingGoesForATextThatHasNoRoom(t *testing.T) {
	const all = "aaa bbb cc dddddd eeeee"
	s := newStore(t, 8)
	put(t, s, "aaa", "bbb", "cc")
	pin(t, s, "bbb")
	if d, e := s.Put("dddddd"); d != "" || e != api.ErrMany {
		t.Errorf("Put: %q %d", d, e)
	}
	has(t, s, all, "aaa bbb cc")
	put(t, s, "eeeee")
	has(t, s, all, "bbb eeeee")
	pin(t, s, "eeeee")
	if d, e := s.Put("x"); d != "" || e != api.ErrMany {
		t.Errorf("Put: %q %d", d, e)
	}
	put(t, s, "eeeee")
	has(t, s, all, "bbb eeeee")
}

func TestD2D4WhatIsPinnedIsThereUntilUnpinnedAsOften(t *testing.T) {
	a := digest.Sum("a")
	s := newStore(t, 2)
	put(t, s, "a")
	for range 3 {
		pin(t, s, "a")
	}
	for pins := 3; pins > 0; pins-- {
		put(t, s, "b", "c")
		if f, e := s.Find(a); f != (api.Found{There: true, Size: 1, Pins: pins}) || e != api.OK {
			t.Errorf("Find: %v %d", f, e)
		}
		unpin(t, s, "a")
	}
	if e := s.Unpin(a); e != api.ErrState {
		t.Errorf("Unpin of what is not pinned: %d", e)
	}
	put(t, s, "b")
	has(t, s, "a b c", "b c")
	if e := s.Unpin(a); e != api.ErrNone {
		t.Errorf("Unpin of what is gone: %d", e)
	}
	put(t, s, "a")
	if f, _ := s.Find(a); f.Pins != 0 {
		t.Errorf("what comes again is pinned: %v", f)
	}
}

func TestD2ErrorsOfDigests(t *testing.T) {
	s := newStore(t, 10)
	put(t, s, "a")
	ask := func(d string) [5]api.Errno {
		text, e1 := s.Get(d)
		found, e2 := s.Find(d)
		missing, e3 := s.Missing([]string{digest.Sum("a"), d})
		if text != "" || found != (api.Found{}) || e3 != api.OK && len(missing) != 0 {
			t.Errorf("%q: %q %v %v", d, text, found, missing)
		}
		return [5]api.Errno{e1, e2, e3, s.Pin(d), s.Unpin(d)}
	}
	for _, d := range noDigests() {
		if got := ask(d); got != [5]api.Errno{api.ErrForm, api.ErrForm, api.ErrForm, api.ErrForm, api.ErrForm} {
			t.Errorf("%q: %v", d, got)
		}
	}
	if got := ask(digest.Sum("none")); got != [5]api.Errno{api.ErrNone, api.OK, api.OK, api.ErrNone, api.ErrNone} {
		t.Errorf("a digest that is not there: %v", got)
	}
}

func TestD2Missing(t *testing.T) {
	s := newStore(t, 10)
	put(t, s, "a", "b")
	a, b, x, y := digest.Sum("a"), digest.Sum("b"), digest.Sum("x"), digest.Sum("y")
	for i, c := range []struct {
		l, want []string
		e       api.Errno
	}{
		{nil, nil, api.OK},
		{[]string{a, b, a}, nil, api.OK},
		{[]string{y, a, x, y, b, x, x}, []string{y, x, y, x, x}, api.OK},
		{slices.Repeat([]string{x}, api.MaxTexts), slices.Repeat([]string{x}, api.MaxTexts), api.OK},
		{slices.Repeat([]string{x}, api.MaxTexts+1), nil, api.ErrMany},
		{make([]string, api.MaxTexts+1), nil, api.ErrMany},
		{make([]string, api.MaxTexts), nil, api.ErrForm},
		{[]string{x, "x"}, nil, api.ErrForm},
	} {
		was := slices.Clone(c.l)
		got, e := s.Missing(c.l)
		if !slices.Equal(got, c.want) || e != c.e {
			t.Errorf("%d: Missing: %d, %v", i, e, got)
		}
		clear(got)
		if !slices.Equal(c.l, was) {
			t.Errorf("%d: what was handed in was changed", i)
		}
	}
}

// model of a store: the texts, that one first which was put, or got, longest ago.
type model struct {
	room  int
	texts []modelText
}

type modelText struct {
	text string
	pins int
}

func (m *model) find(text string) int {
	return slices.IndexFunc(m.texts, func(x modelText) bool { return x.text == text })
}

func (m *model) use(i int) {
	x := m.texts[i]
	m.texts = append(slices.Delete(m.texts, i, i+1), x)
}

func (m *model) bytes(pinned bool) int {
	n := 0
	for _, x := range m.texts {
		if !pinned || x.pins > 0 {
			n += len(x.text)
		}
	}
	return n
}

func (m *model) put(text string) api.Errno {
	if i := m.find(text); i >= 0 {
		m.use(i)
		return api.OK
	}
	if m.bytes(true)+len(text) > m.room {
		return api.ErrMany
	}
	for m.bytes(false)+len(text) > m.room {
		i := slices.IndexFunc(m.texts, func(x modelText) bool { return x.pins == 0 })
		m.texts = slices.Delete(m.texts, i, i+1)
	}
	m.texts = append(m.texts, modelText{text: text})
	return api.OK
}

func (m *model) get(text string) (string, api.Errno) {
	i := m.find(text)
	if i < 0 {
		return "", api.ErrNone
	}
	m.use(i)
	return text, api.OK
}

func (m *model) pin(text string, by int) api.Errno {
	i := m.find(text)
	if i < 0 {
		return api.ErrNone
	}
	if m.texts[i].pins+by < 0 {
		return api.ErrState
	}
	m.texts[i].pins += by
	return api.OK
}

func (m *model) found(text string) api.Found {
	i := m.find(text)
	if i < 0 {
		return api.Found{}
	}
	return api.Found{There: true, Size: len(text), Pins: m.texts[i].pins}
}

// step does one thing with a store and its model, and tells what both say.
func step(d *draw, s *cas.Store, m *model, text string) (string, string) {
	sum := digest.Sum(text)
	switch d.below(7) {
	case 0, 1, 2:
		got, e := s.Put(text)
		want := m.put(text)
		if want == api.OK {
			return fmt.Sprint("put ", got, e), fmt.Sprint("put ", sum, want)
		}
		return fmt.Sprint("put ", got, e), fmt.Sprint("put ", "", want)
	case 3:
		got, e := s.Get(sum)
		want, g := m.get(text)
		return fmt.Sprint("get ", got, e), fmt.Sprint("get ", want, g)
	case 4:
		return fmt.Sprint("pin ", s.Pin(sum)), fmt.Sprint("pin ", m.pin(text, 1))
	}
	return fmt.Sprint("unpin ", s.Unpin(sum)), fmt.Sprint("unpin ", m.pin(text, -1))
}

func TestD1D2D3D4AsAModelDoes(t *testing.T) {
	d := draw(1)
	for _, room := range []int{0, 1, 5, 20, 50, 100} {
		s, m := newStore(t, room), &model{room: room}
		for i := range 3000 {
			text := strings.Repeat(string('a'+rune(d.below(6))), d.below(8))
			got, want := step(&d, s, m, text)
			if got != want {
				t.Fatalf("room %d, step %d, %q: %s, must be %s", room, i, text, got, want)
			}
			f, e := s.Find(digest.Sum(text))
			b, n := s.Room()
			if f != m.found(text) || e != api.OK || b != m.bytes(false) || n != len(m.texts) || b > room {
				t.Fatalf("room %d, step %d, %q: %v %d; %d %d", room, i, text, f, e, b, n)
			}
		}
		for _, x := range m.texts {
			if got, e := s.Get(digest.Sum(x.text)); got != x.text || e != api.OK {
				t.Errorf("room %d: Get of %q: %q %d", room, x.text, got, e)
			}
		}
	}
}

func TestD1ManyTextsGoOneByOne(t *testing.T) {
	const many = 20000
	s := newStore(t, 2*many*5)
	text := func(i int) string { return fmt.Sprintf("%05d", i) }
	for i := range 2 * many {
		put(t, s, text(i))
		if i < many {
			pin(t, s, text(i))
		}
	}
	for i := range 2 * many {
		put(t, s, text(2*many+i))
		if _, n := s.Room(); n != 2*many {
			t.Fatalf("%d texts", n)
		}
	}
	for i := range 4 * many {
		f, _ := s.Find(digest.Sum(text(i)))
		if f.There != (i < many || i >= 3*many) {
			t.Fatalf("%d: %v", i, f)
		}
	}
}

func TestP1AStoreThatNewDidNotMakeKeepsNothing(t *testing.T) {
	none, _ := cas.New(-1)
	a := digest.Sum("a")
	for i, s := range []*cas.Store{none, {}} {
		for _, x := range []string{"", "a"} {
			if d, e := s.Put(x); d != "" || e != api.ErrMany {
				t.Errorf("%d: Put: %q %d", i, d, e)
			}
		}
		text, e1 := s.Get(a)
		found, e2 := s.Find(a)
		missing, e3 := s.Missing([]string{a})
		got := [5]api.Errno{e1, e2, e3, s.Pin(a), s.Unpin(a)}
		if got != [5]api.Errno{api.ErrNone, api.OK, api.OK, api.ErrNone, api.ErrNone} {
			t.Errorf("%d: %v", i, got)
		}
		bytes, many := s.Room()
		if text != "" || found != (api.Found{}) || !slices.Equal(missing, []string{a}) || bytes != 0 || many != 0 {
			t.Errorf("%d: %q %v %v %d %d", i, text, found, missing, bytes, many)
		}
		if _, e := s.Get("x"); e != api.ErrForm {
			t.Errorf("%d: Get: %d", i, e)
		}
	}
}

func TestP3TwoStoresDoNotKnowEachOther(t *testing.T) {
	s, k := newStore(t, 5), newStore(t, 5)
	put(t, s, "a")
	pin(t, s, "a")
	has(t, s, "a", "a")
	has(t, k, "a", "")
	put(t, k, "bbbbb")
	has(t, s, "a bbbbb", "a")
}
