package wire_test

import (
	"fmt"
	"reflect"
	"strings"
	"testing"

	"foundry/api"
	"foundry/wire"
)

// form of what is packed, by the name of its call; again reads a text and packs what was read.
type form struct {
	name  string
	again func(s string) (string, api.Errno)
}

// again looks, too, that nothing comes with an error, and that what is read may be packed.
func again[T any](t *testing.T, read func(string) (T, api.Errno), pack func(T) (string, api.Errno)) func(string) (string, api.Errno) {
	return func(s string) (string, api.Errno) {
		v, e := read(s)
		if e != api.OK {
			if x := reflect.ValueOf(v); !x.IsZero() && (x.Kind() != reflect.Slice || x.Len() != 0) {
				t.Errorf("%.200q: %v comes with error %d", s, v, e)
			}
			return "", e
		}
		out, e := pack(v)
		if e != api.OK {
			t.Errorf("%.200q: %v is read, which is not packed: %d", s, v, e)
		}
		return out, api.OK
	}
}

func forms(t *testing.T) []form {
	return []form{
		{"Texts", again(t, wire.ReadTexts, wire.Texts)},
		{"Nodes", again(t, wire.ReadNodes, wire.Nodes)},
		{"Action", again(t, wire.ReadAction, wire.Action)},
		{"Result", again(t, wire.ReadResult, wire.Result)},
	}
}

// isForm looks at what came of a text that is packed of something, if it must be, or of nothing.
func isForm(t *testing.T, f form, s string, must bool) {
	t.Helper()
	out, e := f.again(s)
	switch {
	case e == api.OK && out != s:
		t.Errorf("%s: two are packed alike: %.200q and %.200q", f.name, s, out)
	case e != api.OK && e != api.ErrForm:
		t.Errorf("%s: %.200q: error %d", f.name, s, e)
	case must && e != api.OK:
		t.Errorf("%s: %.200q is not read", f.name, s)
	}
}

func TestB5B6ReadTexts(t *testing.T) {
	for _, l := range [][]string{nil, {""}, {"a", "", "bc", "a"}, {"\x00\xff", strings.Repeat("y", 300)}, {long[1:]}, make([]string, api.MaxTexts)} {
		s, _ := wire.Texts(l)
		got, e := wire.ReadTexts(s)
		if len(got) != len(l) || len(l) > 0 && !reflect.DeepEqual(got, l) || e != api.OK {
			t.Errorf("ReadTexts of %d texts = %.200q %d", len(l), got, e)
		}
	}
}

func TestB5B6ReadNodes(t *testing.T) {
	for _, l := range [][]api.Node{nil, {node("a", 1, dA)}, {node("-", 3, dB), node("a", 2, dA)}, manyNodes(api.MaxFiles)} {
		s, _ := wire.Nodes(l)
		got, e := wire.ReadNodes(s)
		if len(got) != len(l) || len(l) > 0 && !reflect.DeepEqual(got, l) || e != api.OK {
			t.Errorf("ReadNodes of %v = %v %d", l, got, e)
		}
	}
}

func TestB5B6ReadAction(t *testing.T) {
	for _, a := range []api.Action{
		{Command: []string{"do", ""}, Input: dA, Outputs: []string{"o", "p/q"}, Fuel: 300},
		{Command: []string{long[1:]}, Input: dB, Outputs: manyPaths(api.MaxFiles), Fuel: api.MaxNumber},
	} {
		s, _ := wire.Action(a)
		if got, e := wire.ReadAction(s); !reflect.DeepEqual(got, a) || e != api.OK {
			t.Errorf("ReadAction = %.200v %d", got, e)
		}
	}
	s, _ := wire.Action(api.Action{Input: dA})
	if got, e := wire.ReadAction(s); len(got.Command) != 0 || got.Input != dA || len(got.Outputs) != 0 || got.Fuel != 0 || e != api.OK {
		t.Errorf("ReadAction of little = %v %d", got, e)
	}
}

func TestB5B6ReadResult(t *testing.T) {
	for _, r := range []api.Result{{Output: dA}, {Code: 104, Output: dB, Spent: 100000}, {Code: api.MaxNumber, Output: dB, Spent: api.MaxNumber}} {
		s, _ := wire.Result(r)
		if got, e := wire.ReadResult(s); got != r || e != api.OK {
			t.Errorf("ReadResult = %v %d", got, e)
		}
	}
}

// number packs, whether or not it may be in what it stands in.
func number(n int) string {
	s, _ := wire.Number(n)
	return s
}

func text(s string) string { return number(len(s)) + s }

func TestB5WhatIsOfItsShapeAloneIsNotRead(t *testing.T) {
	paths := func(n int) string { return number(n) + strings.Repeat("\x01a", n) }
	packedNode := func(name, kind, d string) string { return text(name) + kind + text(d) }
	many := number(api.MaxFiles + 1)
	for _, n := range manyNodes(api.MaxFiles + 1) {
		many += packedNode(n.Name, number(n.Kind), n.Digest)
	}
	manyOutputs := number(api.MaxFiles + 1)
	for _, p := range manyPaths(api.MaxFiles + 1) {
		manyOutputs += text(p)
	}
	huge := number(api.MaxNumber)
	over := strings.Repeat("\xff", 7) + "\x10"
	bad := map[string][]string{
		"Texts": {
			number(api.MaxTexts+1) + strings.Repeat("\x00", api.MaxTexts+1), "\x01" + text(long),
			huge, huge + "\x00", "\x01" + huge + "a", "\x80\x00", "\x81\x00\x01a", "\x01\x81\x00a", "\x00\x00", "\x01\x01", over, strings.Repeat("\xff", 20),
		},
		"Nodes": {
			many, huge, "\x01" + packedNode("", "\x01", dA), "\x01" + packedNode("A", "\x01", dA), "\x01" + packedNode("a", "\x00", dA),
			"\x01" + packedNode("a", "\x04", dA), "\x01" + packedNode("a", "\x81\x00", dA), "\x01" + packedNode("a", over, dA),
			"\x01" + packedNode("a", "\x01", dA[1:]), "\x01" + packedNode("a", "\x01", strings.ToUpper(dA)), "\x01" + packedNode(long, "\x01", dA),
			"\x02" + packedNode("a", "\x01", dA) + packedNode("a", "\x01", dA), "\x02" + packedNode("b", "\x01", dA) + packedNode("a", "\x01", dA),
			"\x01" + packedNode("a", "\x01", dA) + "\x00", "\x02" + packedNode("a", "\x01", dA), "\x00" + packedNode("a", "\x01", dA),
		},
		"Action": {
			paths(61) + text(dA) + "\x00\x00", "\x00" + text(dA) + manyOutputs + "\x00", "\x01" + text(long) + text(dA) + "\x00\x00",
			"\x00" + text("") + "\x00\x00", "\x00" + text(dA+"0") + "\x00\x00", "\x00" + text(dA) + "\x01\x01/\x00", "\x00" + text(dA) + "\x02\x01b\x01a\x00",
			"\x00" + text(dA) + paths(2) + "\x00", "\x00" + text(dA) + "\x00" + over, "\x00" + text(dA) + "\x00", "\x00" + text(dA) + "\x00\x00\x00", "\x00" + text(dA) + "\x00\x80\x00",
		},
		"Result": {
			"\x00" + text("") + "\x00", "\x00" + text(dA[2:]) + "\x00", over + text(dA) + "\x00", "\x00" + text(dA) + over,
			"\x80\x00" + text(dA) + "\x00", "\x00" + text(dA) + "\x80\x00", "\x00" + text(dA), "\x00" + text(dA) + "\x00\x00",
		},
	}
	for _, f := range forms(t) {
		for k, s := range bad[f.name] {
			if _, e := f.again(s); e != api.ErrForm {
				t.Errorf("%s %d: %.200q: %d", f.name, k, s, e)
			}
		}
	}
}

// Packed things of each form, by which wrong ones are made.
func samples(t *testing.T) map[string][]string {
	good := func(s string, e api.Errno) string {
		if e != api.OK {
			t.Fatal(e)
		}
		return s
	}
	return map[string][]string{
		"Texts":  {good(wire.Texts(nil)), good(wire.Texts([]string{"a", "", "bcd"})), good(wire.Texts([]string{strings.Repeat("z", 130), "\x80"}))},
		"Nodes":  {good(wire.Nodes(nil)), good(wire.Nodes(manyNodes(1))), good(wire.Nodes(manyNodes(4)))},
		"Action": {good(wire.Action(api.Action{Input: dA})), good(wire.Action(api.Action{Command: []string{"set a hi", "make o a"}, Input: dB, Outputs: []string{"o", "p/q"}, Fuel: 70000}))},
		"Result": {good(wire.Result(api.Result{Output: dA})), good(wire.Result(api.Result{Code: 3, Output: dB, Spent: 12345}))},
	}
}

func TestB5B6OfWhatIsCutOffOrAdded(t *testing.T) {
	all := samples(t)
	for _, f := range forms(t) {
		for _, s := range all[f.name] {
			isForm(t, f, s, true)
			for cut := range len(s) {
				if _, e := f.again(s[:cut]); e != api.ErrForm {
					t.Errorf("%s: %q: %d", f.name, s[:cut], e)
				}
			}
			for c := range 256 {
				if _, e := f.again(s + string([]byte{byte(c)})); e != api.ErrForm {
					t.Errorf("%s: %q with %d behind it: %d", f.name, s, c, e)
				}
			}
		}
	}
}

func TestB5B6OfEachOtherByte(t *testing.T) {
	all := samples(t)
	for _, f := range forms(t) {
		for _, s := range all[f.name] {
			for at := range len(s) {
				for c := range 256 {
					isForm(t, f, s[:at]+string([]byte{byte(c)})+s[at+1:], false)
				}
			}
		}
	}
}

func TestB5B6OfAnyBytes(t *testing.T) {
	d := draw(7)
	all := samples(t)
	for _, f := range forms(t) {
		for range 20000 {
			b := []byte(all[f.name][d.below(len(all[f.name]))])
			for range 1 + d.below(4) {
				at := d.below(len(b) + 1)
				switch d.below(3) {
				case 0:
					b = append(b[:at:at], append([]byte{byte(d.below(256))}, b[at:]...)...)
				case 1:
					b = append(b[:at:at], b[min(len(b), at+1+d.below(3)):]...)
				default:
					b = append(b, byte(d.below(4)))
				}
			}
			isForm(t, f, string(b), false)
		}
	}
}

// All short texts of a few bytes: each that is read is packed so, and each list that is packed so short is read.
func TestB6OfAllShortTexts(t *testing.T) {
	read := map[string]int{}
	var walk func(s string)
	walk = func(s string) {
		for _, f := range forms(t) {
			isForm(t, f, s, false)
		}
		if l, e := wire.ReadTexts(s); e == api.OK {
			read[fmt.Sprintf("%q", l)]++
		}
		if len(s) == 6 {
			return
		}
		for _, c := range []string{"\x00", "\x01", "\x02", "\x03", "\x80", "\x81"} {
			walk(s + c)
		}
	}
	walk("")
	for l, n := range read {
		if n != 1 {
			t.Errorf("%s is read from %d texts", l, n)
		}
	}
	// Up to three texts, of six letters, packed in at most six bytes: none; one with 0 to 3 letters; two with 0 to 3 together; three with 0 to 2.
	want := 1 + (1 + 6 + 36 + 216) + (1 + 2*6 + 3*36 + 4*216) + (1 + 3*6 + 6*36)
	if len(read) != want {
		t.Errorf("%d lists are read, %d are wanted", len(read), want)
	}
}
