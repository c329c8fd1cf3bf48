package log

import (
	"strings"

	"foundry/api"
	"foundry/wire"
)

// An entry begins with its mark, and ends with the bytes of its check.
const (
	mark      = "L"
	checkSize = 4
)

func isTooLong(s string) bool { return len(s) > api.MaxText }

// checkBytes of a text, the lowest first.
func (made *shifts) checkBytes(s string) string {
	x := made.check(s)
	return string([]byte{byte(x), byte(x >> 8), byte(x >> 16), byte(x >> 24)})
}

// entry of a text that is known not to be too long, whose length so can be packed.
func (made *shifts) entry(s string) string {
	length, _ := wire.Number(len(s))
	return mark + length + s + made.checkBytes(s)
}

// firstEntry is the text of the entry with which a log begins, how many bytes that entry has, and whether it is whole.
func (made *shifts) firstEntry(log string) (text string, size int, whole bool) {
	packed, marked := strings.CutPrefix(log, mark)
	if !marked {
		return "", 0, false
	}
	length, width, e := wire.ReadNumber(packed)
	if e != api.OK || length > api.MaxText {
		return "", 0, false
	}
	begin := len(mark) + width
	end := begin + length
	if end+checkSize > len(log) {
		return "", 0, false
	}
	text, size = log[begin:end], end+checkSize
	if log[end:size] != made.checkBytes(text) {
		return "", 0, false
	}
	return text, size, true
}
