package digest_test

import (
	"crypto/sha256"
	"encoding/hex"
	"fmt"
	"slices"
	"strings"
	"testing"

	"foundry/api"
	"foundry/digest"
)

// wantSum is the library's own SHA-256.
func wantSum(s string) string {
	b := sha256.Sum256([]byte(s))
	return hex.EncodeToString(b[:])
}

func wantPair(a, b string) string {
	x, _ := hex.DecodeString(a)
	y, _ := hex.DecodeString(b)
	return wantSum("\x01" + string(x) + string(y))
}

func wantLeaves(l []string) []string {
	var level []string
	for _, s := range l {
		level = append(level, wantSum("\x00"+s))
	}
	return level
}

// levelUp goes up where the program goes down by halves: one that is left over goes up as it is.
func levelUp(level []string) []string {
	var up []string
	for i := 0; i < len(level); i += 2 {
		if i+1 < len(level) {
			up = append(up, wantPair(level[i], level[i+1]))
		} else {
			up = append(up, level[i])
		}
	}
	return up
}

func wantRoot(l []string) string {
	if len(l) == 0 {
		return wantSum("")
	}
	level := wantLeaves(l)
	for len(level) > 1 {
		level = levelUp(level)
	}
	return level[0]
}

// wantProof has the one beside it on each level, if there is one.
func wantProof(l []string, i int) []string {
	var out []string
	for level := wantLeaves(l); len(level) > 1; level, i = levelUp(level), i/2 {
		if beside := i ^ 1; beside < len(level) {
			out = append(out, level[beside])
		}
	}
	return out
}

func texts(n int) []string {
	var l []string
	for i := range n {
		l = append(l, fmt.Sprint("text ", i))
	}
	return l
}

func TestA1A2SumKnown(t *testing.T) {
	for s, want := range map[string]string{
		"":    "e3b0c44298fc1c149afbf4c8996fb92427ae41e4649b934ca495991b7852b855",
		"abc": "ba7816bf8f01cfea414140de5dae2223b00361a396177a9cb410ff61f20015ad",
		"abcdbcdecdefdefgefghfghighijhijkijkljklmklmnlmnomnopnopq": "248d6a61d20638b8e5c026930c3e6039a33ce45964ff2167f6ecedd419db06c1",
	} {
		if got := digest.Sum(s); got != want {
			t.Errorf("Sum(%q) = %s, want %s", s, got, want)
		}
	}
}

func TestA1A2SumOfEachLength(t *testing.T) {
	b := make([]byte, 0, 400)
	for n := range 400 {
		if got, want := digest.Sum(string(b)), wantSum(string(b)); got != want {
			t.Errorf("Sum of %d bytes = %s, want %s", n, got, want)
		}
		b = append(b, byte(n*151+n/3))
	}
}

func TestA1A2SumOfLongTexts(t *testing.T) {
	for _, n := range []int{4095, 4096, api.MaxText, api.MaxText + 1, 1 << 21, 1<<29 + 5} {
		if n > 1<<25 && testing.Short() {
			continue
		}
		s := strings.Repeat("\xff", n)
		if got, want := digest.Sum(s), wantSum(s); got != want {
			t.Errorf("Sum of %d bytes = %s, want %s", n, got, want)
		}
	}
}

func TestA1Is(t *testing.T) {
	d := digest.Sum("x")
	for _, s := range []string{d, strings.Repeat("0", 64), strings.Repeat("f", 64)} {
		if !digest.Is(s) {
			t.Errorf("Is(%q) is false", s)
		}
	}
	for _, s := range []string{"", "0", d[1:], d + "0", d + d, d[:63] + "\n", " " + d[1:], strings.ToUpper(d), strings.Repeat("é", 32)} {
		if digest.Is(s) {
			t.Errorf("Is(%q) is true", s)
		}
	}
}

func TestA1IsOfEachByteAtEachPlace(t *testing.T) {
	d := digest.Sum("x")
	for at := range d {
		for c := range 256 {
			s := d[:at] + string([]byte{byte(c)}) + d[at+1:]
			want := strings.IndexByte("0123456789abcdef", byte(c)) >= 0
			if got := digest.Is(s); got != want {
				t.Errorf("Is with byte %d at %d = %v", c, at, got)
			}
		}
	}
}

func TestA3Pair(t *testing.T) {
	a, b := digest.Sum("a"), digest.Sum("b")
	for _, p := range [][2]string{{a, b}, {b, a}, {a, a}, {strings.Repeat("0", 64), strings.Repeat("f", 64)}} {
		got, e := digest.Pair(p[0], p[1])
		if want := wantPair(p[0], p[1]); got != want || e != api.OK {
			t.Errorf("Pair(%v) = %s %d, want %s", p, got, e, want)
		}
	}
}

func TestA3PairOfWhatIsNoDigest(t *testing.T) {
	a := digest.Sum("a")
	for _, s := range []string{"", a[1:], a + "0", strings.ToUpper(a), "g" + a[1:]} {
		for _, p := range [][2]string{{s, a}, {a, s}, {s, s}} {
			if got, e := digest.Pair(p[0], p[1]); got != "" || e != api.ErrForm {
				t.Errorf("Pair(%q) = %q %d", p, got, e)
			}
		}
	}
}

func TestA4Root(t *testing.T) {
	for _, n := range []int{0, 1, 2, 3, 4, 5, 6, 7, 8, 9, 15, 16, 17, 31, 32, 33, 100, 1023, 1024, 1025, api.MaxTexts} {
		l := texts(n)
		if got, e := digest.Root(l); got != wantRoot(l) || e != api.OK {
			t.Errorf("Root of %d = %q %d", n, got, e)
		}
	}
}

func TestA4RootOfTheLongestText(t *testing.T) {
	l := []string{"a", strings.Repeat("x", api.MaxText)}
	if got, e := digest.Root(l); got != wantRoot(l) || e != api.OK {
		t.Errorf("Root = %q %d", got, e)
	}
}

// tooMuch has lists that Root refuses.
func tooMuch() [][]string {
	long := strings.Repeat("x", api.MaxText+1)
	return [][]string{make([]string, api.MaxTexts+1), {long}, {"a", "b", long}, {long, "a"}}
}

func TestA4ErrManyOfRootAndProof(t *testing.T) {
	for k, l := range tooMuch() {
		if got, e := digest.Root(l); got != "" || e != api.ErrMany {
			t.Errorf("Root of list %d = %q %d", k, got, e)
		}
		for _, i := range []int{-1, 0, len(l) - 1, len(l)} { // ErrMany is ahead of ErrRange
			if got, e := digest.Proof(l, i); len(got) != 0 || e != api.ErrMany {
				t.Errorf("Proof of %d in list %d = %q %d", i, k, got, e)
			}
		}
	}
}

func TestA4Proof(t *testing.T) {
	for n := range 40 {
		l := texts(n)
		for i := range n {
			if got, e := digest.Proof(l, i); !slices.Equal(got, wantProof(l, i)) || e != api.OK {
				t.Errorf("Proof of %d of %d = %q %d", i, n, got, e)
			}
		}
		for _, i := range []int{-1 << 63, -1, n, n + 1, 1<<63 - 1} {
			if got, e := digest.Proof(l, i); len(got) != 0 || e != api.ErrRange {
				t.Errorf("Proof of %d of %d = %q %d", i, n, got, e)
			}
		}
	}
}

func TestA4A5ProofOfManyShows(t *testing.T) {
	l := texts(api.MaxTexts)
	root, _ := digest.Root(l)
	for _, i := range []int{0, 1, 1023, 1024, 1025, 1791, 1792, api.MaxTexts - 1} {
		p, e := digest.Proof(l, i)
		if e != api.OK || !slices.Equal(p, wantProof(l, i)) {
			t.Errorf("Proof of %d = %q %d", i, p, e)
		}
		if got, e := digest.Shows(root, l[i], i, len(l), p); !got || e != api.OK {
			t.Errorf("Shows of %d = %v %d", i, got, e)
		}
	}
}

func TestA5ProofShowsItsTextAlone(t *testing.T) {
	for n := 1; n <= 18; n++ {
		l := texts(n)
		root, _ := digest.Root(l)
		for i := range n {
			p, _ := digest.Proof(l, i)
			for k := range n {
				for j, s := range append(slices.Clone(l), "", "none", "\x00"+l[i]) {
					got, e := digest.Shows(root, s, k, n, p)
					if want := k == i && j == i; got != want || e != api.OK {
						t.Errorf("Shows of %q at %d of %d by the proof of %d = %v %d", s, k, n, i, got, e)
					}
				}
			}
		}
	}
}

func TestA4ShowsNothingByAnotherProof(t *testing.T) {
	for n := 1; n <= 12; n++ {
		l := texts(n)
		root, _ := digest.Root(l)
		for i := range n {
			p, _ := digest.Proof(l, i)
			wrong := [][]string{append(slices.Clone(p), root), append([]string{root}, p...), append(slices.Clone(p), p...)}
			if n == 1 {
				wrong = wrong[:2]
			}
			for k := range p {
				other := slices.Clone(p)
				other[k] = digest.Sum("other")
				wrong = append(wrong, other, p[:k], p[k+1:])
			}
			for _, w := range wrong {
				if got, e := digest.Shows(root, l[i], i, n, w); got || e != api.OK {
					t.Errorf("Shows of %d of %d by %q = %v %d", i, n, w, got, e)
				}
			}
			if got, e := digest.Shows(digest.Sum("other"), l[i], i, n, p); got || e != api.OK {
				t.Errorf("Shows of %d of %d by another root = %v %d", i, n, got, e)
			}
		}
	}
}

// A pair's bytes are no text: what is summed begins otherwise.
func TestA5NoPairPassesForAText(t *testing.T) {
	l := texts(4)
	root, _ := digest.Root(l)
	left, _ := digest.Root(l[:2])
	right, _ := digest.Root(l[2:])
	x, _ := hex.DecodeString(left)
	y, _ := hex.DecodeString(right)
	for _, s := range []string{string(x) + string(y), "\x01" + string(x) + string(y), left + right} {
		if got, e := digest.Shows(root, s, 0, 1, nil); got || e != api.OK {
			t.Errorf("Shows of %q = %v %d", s, got, e)
		}
	}
}

func TestA4ErrorsOfShows(t *testing.T) {
	d := digest.Sum("d")
	long := strings.Repeat("x", api.MaxText+1)
	for _, c := range []struct {
		root, text string
		i, n       int
		proof      []string
		want       api.Errno
	}{
		{"", "a", 0, 1, nil, api.ErrForm},
		{d[1:], "a", 0, 1, nil, api.ErrForm},
		{strings.ToUpper(d), "a", 0, 1, nil, api.ErrForm},
		{d, "a", 0, 2, []string{""}, api.ErrForm},
		{d, "a", 0, 1, []string{d, d, d + "0"}, api.ErrForm}, // though there are too many
		{"", long, 0, 1, nil, api.ErrForm},
		{"", "a", 0, 0, nil, api.ErrForm},
		{"", "a", 5, 1, nil, api.ErrForm},
		{d, long, -1, 0, []string{"x"}, api.ErrForm},
		{d, long, 0, 1, nil, api.ErrMany},
		{d, long, 1, 1, nil, api.ErrMany},
		{d, "a", 0, 0, nil, api.ErrMany},
		{d, "a", 0, -1, nil, api.ErrMany},
		{d, "a", 0, -1 << 63, nil, api.ErrMany},
		{d, "a", 0, api.MaxTexts + 1, nil, api.ErrMany},
		{d, "a", -1, api.MaxTexts + 1, nil, api.ErrMany},
		{d, "a", 0, 1<<63 - 1, nil, api.ErrMany},
		{d, "a", -1, 1, nil, api.ErrRange},
		{d, "a", 1, 1, nil, api.ErrRange},
		{d, "a", -1 << 63, 3, []string{d, d}, api.ErrRange},
		{d, "a", 1<<63 - 1, 3, []string{d, d}, api.ErrRange},
		{d, "a", api.MaxTexts, api.MaxTexts, nil, api.ErrRange},
		{d, "a", api.MaxTexts - 1, api.MaxTexts, nil, api.OK},
		{d, long[1:], 0, 1, nil, api.OK},
	} {
		if got, e := digest.Shows(c.root, c.text, c.i, c.n, c.proof); got || e != c.want {
			t.Errorf("Shows(%q, %d bytes, %d, %d, %q) = %v %d, want %d", c.root, len(c.text), c.i, c.n, c.proof, got, e, c.want)
		}
	}
}

func TestP2WhatIsHandedInIsOnlyRead(t *testing.T) {
	full := texts(12)
	l := full[:7]
	root, _ := digest.Root(l)
	p, _ := digest.Proof(l, 3)
	fullProof := append(slices.Clone(p), "spare", "room")
	keep, keepProof := slices.Clone(full), slices.Clone(fullProof)
	digest.Shows(root, l[3], 3, len(l), fullProof[:len(p)])
	if !slices.Equal(full, keep) || !slices.Equal(fullProof, keepProof) {
		t.Errorf("changed: %q %q", full, fullProof)
	}
}

func TestP2P3AnswersAreTheCallersAndTheSame(t *testing.T) {
	l := texts(9)
	first, _ := digest.Proof(l, 4)
	keep := slices.Clone(first)
	second, _ := digest.Proof(l, 4)
	for i := range first {
		first[i] = "changed"
	}
	third, _ := digest.Proof(l, 4)
	if !slices.Equal(second, keep) || !slices.Equal(third, keep) {
		t.Errorf("another answer: %q %q, want %q", second, third, keep)
	}
}
