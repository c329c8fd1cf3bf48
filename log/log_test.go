package log_test

import (
	"hash/crc32"
	"slices"
	"strings"
	"testing"

	"foundry/api"
	"foundry/log"
)

var (
	longest = strings.Repeat("x", api.MaxText)
	tooLong = longest + "x"
)

// draw numbers that are the same each time.
type draw uint64

func (d *draw) below(n int) int {
	*d = *d*6364136223846793005 + 1442695040888963407
	return int(uint64(*d) >> 33 % uint64(n))
}

// text of drawn bytes, which often are those that matter in a log.
func (d *draw) text(most int) string {
	b := make([]byte, d.below(most+1))
	for i := range b {
		b[i] = byte(d.below(256))
		if d.below(3) == 0 {
			b[i] = "L\x00\x01\x02\x80"[d.below(5)]
		}
	}
	return string(b)
}

// checkBytes of a text, by the library.
func checkBytes(s string) string {
	c := crc32.ChecksumIEEE([]byte(s))
	return string([]byte{byte(c), byte(c >> 8), byte(c >> 16), byte(c >> 24)})
}

// short is the entry of a text of less than 128 bytes.
func short(s string) string { return "L" + string([]byte{byte(len(s))}) + s + checkBytes(s) }

// logOf entries, one appended behind the other.
func logOf(t *testing.T, entries ...string) string {
	t.Helper()
	s := ""
	for _, x := range entries {
		more, e := log.Append(s, x)
		if e != api.OK {
			t.Fatalf("Append of %.50q: %d", x, e)
		}
		s = more
	}
	return s
}

// reads tells that a log has just these entries, of so many bytes.
func reads(t *testing.T, s string, entries []string, size int) {
	t.Helper()
	l, n := log.Read(s)
	if !slices.Equal(l, entries) || n != size {
		t.Errorf("Read(%.100q) = %.100q %d, must be %.100q %d", s, l, n, entries, size)
	}
}

func TestE1Check(t *testing.T) {
	for _, c := range []struct {
		s    string
		want int
	}{
		{"", 0},
		{"a", 3904355907},
		{"\x00", 3523407757},
		{"\xff", 4278190080},
		{"abc", 891568578},
		{"123456789", 3421780262},
		{"\x00\x00\x00\x00", 558161692},
		{"\xff\xff\xff\xff", 4294967295},
	} {
		if got := log.Check(c.s); got != c.want {
			t.Errorf("Check(%q) = %d, must be %d", c.s, got, c.want)
		}
	}
}

// slowCheck is Check, bit by bit, as the document says it.
func slowCheck(s string) int {
	x := uint32(1<<32 - 1)
	for i := range len(s) {
		x ^= uint32(s[i])
		for range 8 {
			fell := x % 2
			x /= 2
			if fell == 1 {
				x ^= 3988292384
			}
		}
	}
	return int(1<<32 - 1 - x)
}

func TestE1CheckOfAllBytesAndDrawnTexts(t *testing.T) {
	var texts []string
	for c := range 256 {
		texts = append(texts, string([]byte{byte(c)}), string([]byte{'x', byte(c), 0}))
	}
	d := draw(1)
	for range 500 {
		texts = append(texts, d.text(300))
	}
	for _, s := range append(texts, longest, tooLong+tooLong) {
		got := log.Check(s)
		if got != slowCheck(s) || got != int(crc32.ChecksumIEEE([]byte(s))) {
			t.Fatalf("Check(%.50q) = %d, must be %d", s, got, slowCheck(s))
		}
	}
}

func TestE2Append(t *testing.T) {
	long := func(n int, length string) string {
		return "L" + length + longest[:n] + checkBytes(longest[:n])
	}
	for _, c := range []struct{ s, want string }{
		{"", "L\x00\x00\x00\x00\x00"},
		{"one", "L\x03one\xf1\x86lz"},
		{"\x00L", "L\x02\x00LD\x1f\xb3>"},
		{longest[:127], long(127, "\x7f")},
		{longest[:128], long(128, "\x80\x01")},
		{longest[:16383], long(16383, "\xff\x7f")},
		{longest[:16384], long(16384, "\x80\x80\x01")},
		{longest, long(api.MaxText, "\xa0\x8d\x06")},
	} {
		for _, ahead := range []string{"", short("a"), "L", "x", "L\x80", "\x00\xff", short("a")[:5], tooLong} {
			got, e := log.Append(ahead, c.s)
			if got != ahead+c.want || e != api.OK {
				t.Errorf("Append of %.50q behind %.50q: %.50q %d", c.s, ahead, got, e)
			}
		}
	}
	for _, ahead := range []string{"", short("a"), "x"} {
		if got, e := log.Append(ahead, tooLong); got != "" || e != api.ErrMany {
			t.Errorf("Append of a text that is too long: %.50q %d", got, e)
		}
	}
}

func TestE2Read(t *testing.T) {
	reads(t, "", nil, 0)
	l := []string{"one", "", strings.Repeat("two", 60), "\x00L", longest, "three", "", "", longest[:128]}
	s := logOf(t, l...)
	reads(t, s, l, len(s))
	// An entry may itself be a log.
	reads(t, short(short("a")+short("b")), []string{short("a") + short("b")}, 20)
}

func TestE2ReadEndsWhereAnEntryIsNotWhole(t *testing.T) {
	a := short("abc")
	hundreds := longest[:200]
	for _, wrong := range []string{
		"",
		"x",
		"l" + a[1:],
		"\n" + a,
		"L",
		"L\x00",
		"L\x00\x00\x00\x00",
		"L\x00\x00\x00\x00\x01",
		"L\x01a" + checkBytes("b"),
		"L\x03abc\x00\x00\x00\x00",
		"L\x02abc" + checkBytes("abc"),
		"L\x04abc" + checkBytes("abc"),
		"L\x80",
		"L\x80\x00",
		"L\x80\x00" + checkBytes(""),
		"L\x83\x00abc" + checkBytes("abc"),
		"L\x83\x80\x00abc" + checkBytes("abc"),
		"L\x80\x80\x80\x80\x80\x80\x80\x80",
		"L\x80\x80\x80\x80\x80\x80\x80\x80\x01" + hundreds,
		"L\xff\xff\xff\xff\xff\xff\xff\x0f" + hundreds,
		"L\xff\xff\xff\xff\xff\xff\xff\x7f" + hundreds,
		"L\xff\xff\xff\xff\xff\xff\xff\xff\xff\x01" + hundreds,
		"L\xa0\x8d\x06" + longest,
		"L\xa0\x8d\x06" + longest[1:] + checkBytes(longest[1:]),
		"L\xa1\x8d\x06" + tooLong + checkBytes(tooLong),
		"L\xc8\x01" + hundreds[1:] + checkBytes(hundreds),
	} {
		reads(t, wrong, nil, 0)
		ahead := logOf(t, "one", "", "two")
		reads(t, ahead+wrong, []string{"one", "", "two"}, len(ahead))
		// What is whole again further on is not looked for.
		if wrong != "" {
			reads(t, ahead+wrong+a, []string{"one", "", "two"}, len(ahead))
		}
	}
}

func TestE2ReadHoldsAllOfTheCheckAgainstTheText(t *testing.T) {
	s := short("abc")
	for i := len(s) - 4; i < len(s); i++ {
		for bit := range 8 {
			b := []byte(s)
			b[i] ^= 1 << bit
			reads(t, string(b), nil, 0)
		}
	}
	c := checkBytes("abc")
	reads(t, "L\x03abc"+string([]byte{c[3], c[2], c[1], c[0]}), nil, 0)
}

func TestE3Compact(t *testing.T) {
	s := logOf(t, "one", "two")
	three := logOf(t, "three")
	for _, c := range []struct {
		log  string
		keep []string
		want string
	}{
		{"", nil, ""},
		{"", []string{}, ""},
		{s, nil, ""},
		{s, []string{"kept"}, short("kept")},
		{s, []string{"b", "", "a", "b"}, short("b") + short("") + short("a") + short("b")},
		{s + "torn", []string{"kept"}, short("kept") + "torn"},
		{"torn", []string{"kept"}, short("kept") + "torn"},
		{"torn", nil, "torn"},
		{s + "L\x03ab", []string{"kept"}, short("kept") + "L\x03ab"},
		{s + "x" + three, []string{"kept"}, short("kept") + "x" + three},
		{s + three[:len(three)-1], nil, three[:len(three)-1]},
		{"L\xa1\x8d\x06" + tooLong + checkBytes(tooLong), []string{""}, short("") + "L\xa1\x8d\x06" + tooLong + checkBytes(tooLong)},
		{s, []string{longest}, "L\xa0\x8d\x06" + longest + checkBytes(longest)},
		{s, make([]string, api.MaxTexts), strings.Repeat(short(""), api.MaxTexts)},
		{logOf(t, longest) + "x", []string{longest, "a"}, "L\xa0\x8d\x06" + longest + checkBytes(longest) + short("a") + "x"},
	} {
		got, e := log.Compact(c.log, c.keep)
		if got != c.want || e != api.OK {
			t.Errorf("Compact(%.50q, %.50q) = %.50q %d, must be %.50q", c.log, c.keep, got, e, c.want)
		}
	}
}

func TestE3CompactErrors(t *testing.T) {
	for i, keep := range [][]string{
		make([]string, api.MaxTexts+1),
		{tooLong},
		{"a", "b", tooLong, "c"},
		append(make([]string, api.MaxTexts), tooLong),
	} {
		for _, s := range []string{"", short("a"), "x"} {
			if got, e := log.Compact(s, keep); got != "" || e != api.ErrMany {
				t.Errorf("%d: Compact: %.50q %d", i, got, e)
			}
		}
	}
}

// drawnLog is entries, and where each of them ends in their log.
func drawnLog(t *testing.T, d *draw) (entries []string, s string, ends []int) {
	for range d.below(6) {
		x := d.text(200)
		more, e := log.Append(s, x)
		if e != api.OK {
			t.Fatal(e)
		}
		entries, s, ends = append(entries, x), more, append(ends, len(more))
	}
	return entries, s, ends
}

func TestE4ALogThatIsCutOffHasTheEntriesThatWereWhole(t *testing.T) {
	d := draw(2)
	for range 100 {
		entries, s, ends := drawnLog(t, &d)
		whole, size := 0, 0
		for n := 0; n <= len(s); n++ {
			if whole < len(ends) && ends[whole] == n {
				whole, size = whole+1, n
			}
			reads(t, s[:n], entries[:whole], size)
		}
	}
}

func TestE4ALogWithAnotherByteInATextHasTheEntriesAheadOfIt(t *testing.T) {
	d := draw(3)
	for range 30 {
		entries, s, ends := drawnLog(t, &d)
		begin := 0
		for k, end := range ends {
			for i := end - 4 - len(entries[k]); i < end-4; i++ {
				b := []byte(s)
				b[i] += byte(1 + d.below(255))
				reads(t, string(b), entries[:k], begin)
			}
			begin = end
		}
	}
	for c := 1; c < 256; c++ {
		b := []byte(short("one") + short("two"))
		b[len(b)-5] += byte(c)
		reads(t, string(b), []string{"one"}, 9)
	}
}

func TestE4WhatIsAppendedIsReadBehindAllOthers(t *testing.T) {
	d := draw(4)
	for range 300 {
		entries, s, _ := drawnLog(t, &d)
		x := d.text(200)
		more, e := log.Append(s, x)
		if e != api.OK {
			t.Fatal(e)
		}
		reads(t, more, append(entries, x), len(more))
		// What is kept of a log is read, whatever was torn behind it.
		torn := more[:len(s)+d.below(len(more)-len(s))]
		kept, e := log.Compact(torn, entries)
		if kept != torn || e != api.OK {
			t.Fatalf("Compact(%q, %q) = %q %d", torn, entries, kept, e)
		}
	}
}

func TestP1ReadAndCompactOfWhateverTheyAreHanded(t *testing.T) {
	d := draw(5)
	some := 0
	for range 20000 {
		s := d.text(30)
		if d.below(2) == 0 {
			s = short(d.text(5)) + s
		}
		l, n := log.Read(s)
		if n < 0 || n > len(s) || logOf(t, l...) != s[:n] {
			t.Fatalf("Read(%q) = %q %d", s, l, n)
		}
		if more, k := log.Read(s[n:]); len(more) != 0 || k != 0 {
			t.Fatalf("Read(%q) left %q", s, more)
		}
		if got, e := log.Compact(s, []string{"a"}); got != short("a")+s[n:] || e != api.OK {
			t.Fatalf("Compact(%q) = %q %d", s, got, e)
		}
		some += len(l)
	}
	if some < 1000 {
		t.Errorf("only %d entries", some)
	}
}

func TestP2P3WhatIsHandedInIsOnlyReadAndAnswersAreTheSame(t *testing.T) {
	keep := append(make([]string, 0, 5), "b", "a")
	was := slices.Clone(keep[:5])
	first, _ := log.Compact("x", keep)
	if !slices.Equal(keep[:5], was) {
		t.Error("what was handed in was changed")
	}
	keep[0] = "other"
	if again, _ := log.Compact("x", was[:2]); again != first || first != short("b")+short("a")+"x" {
		t.Errorf("%q, %q", first, again)
	}
	s := logOf(t, "a", "b")
	l, _ := log.Read(s)
	clear(l)
	reads(t, s, []string{"a", "b"}, len(s))
	if log.Check("abc") != log.Check("abc") {
		t.Error("another check at another time")
	}
}
