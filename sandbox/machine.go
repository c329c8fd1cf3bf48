package sandbox

import (
	"cmp"
	"maps"
	"slices"
	"strconv"
	"strings"

	"foundry/api"
	"foundry/digest"
	"foundry/tree"
)

// registers: how many there are; bytesBurnt: of how many bytes one more is burnt.
const (
	registers  = 8
	bytesBurnt = 16
)

// machine that runs the lines of a command.
type machine struct {
	files []api.File // those that may be read: what is made is not among them
	made  map[string]api.File
	texts [registers]string
	fuel  int // what is left
	next  int // the line that comes
	ended bool
	code  int // how it ended
}

func newMachine(files []api.File, fuel int) *machine {
	return &machine{files: files, made: map[string]api.File{}, fuel: fuel}
}

func (m *machine) run(lines []line) {
	deeds := m.newDeeds()
	for !m.ended && m.next < len(lines) {
		l := lines[m.next]
		m.next++
		deeds[l.word](l)
	}
}

// newDeeds: what each line does, by its first word.
func (m *machine) newDeeds() map[string]func(l line) {
	return map[string]func(l line){
		"set":  func(l line) { m.put(l.r, l.text) },
		"read": func(l line) { m.read(l.r, l.path) },
		"list": func(l line) { m.put(l.r, m.list(l.path)) },
		"join": func(l line) { m.put(l.r, m.texts[l.r]+m.texts[l.s]) },
		"cut":  func(l line) { m.put(l.r, cut(m.texts[l.r], l.n, l.m)) },
		"size": func(l line) { m.put(l.r, strconv.Itoa(len(m.texts[l.s]))) },
		"sum":  func(l line) { m.put(l.r, digest.Sum(m.texts[l.r])) },
		"make": func(l line) { m.makeFile(api.File{Path: l.path, Text: m.texts[l.r]}) },
		"run":  func(l line) { m.makeFile(api.File{Path: l.path, Text: m.texts[l.r], Run: true}) },
		"same": func(l line) { m.goIf(m.texts[l.r] == m.texts[l.s], l.n) },
		"less": func(l line) { m.goIf(m.texts[l.r] < m.texts[l.s], l.n) },
		"goto": func(l line) { m.goIf(true, l.n) },
		"exit": func(l line) { m.end(l.n) },
	}
}

// burn what a line needs that has so many bytes; if there is less, all is burnt, and it ends.
func (m *machine) burn(bytes int) bool {
	needed := 1 + bytes/bytesBurnt
	if m.fuel < needed {
		m.fuel, m.ended, m.code = 0, true, api.CodeFuel
		return false
	}
	m.fuel -= needed
	return true
}

// end by a line, which does nothing else.
func (m *machine) end(code int) {
	if m.burn(0) {
		m.ended, m.code = true, code
	}
}

func (m *machine) put(r int, text string) {
	if isTooLong(text) {
		m.end(api.CodeLong)
		return
	}
	if m.burn(len(text)) {
		m.texts[r] = text
	}
}

func (m *machine) read(r int, path string) {
	at, there := slices.BinarySearchFunc(m.files, path, func(f api.File, path string) int { return cmp.Compare(f.Path, path) })
	if !there {
		m.end(api.CodeNone)
		return
	}
	m.put(r, m.files[at].Text)
}

// list of the paths of files inside a directory.
func (m *machine) list(dir string) string {
	var b strings.Builder
	for _, f := range m.files {
		if dir == whole || strings.HasPrefix(f.Path, dir+"/") {
			b.WriteString(f.Path)
			b.WriteByte('\n')
		}
	}
	return b.String()
}

// cut out the bytes from one on below another one, as far as there are such.
func cut(s string, from, below int) string {
	below = min(below, len(s))
	return s[min(from, below):below]
}

func (m *machine) makeFile(f api.File) {
	if !m.mayMake(f.Path) {
		m.end(api.CodePath)
		return
	}
	if m.burn(len(f.Text)) {
		m.made[f.Path] = f
	}
}

func (m *machine) mayMake(path string) bool {
	if _, there := m.made[path]; there {
		return true
	}
	if len(m.made) == api.MaxFiles {
		return false
	}
	for other := range m.made {
		if tree.Meets(path, other) {
			return false
		}
	}
	return true
}

func (m *machine) goIf(holds bool, at int) {
	if m.burn(0) && holds {
		m.next = at
	}
}

// madeFiles rise.
func (m *machine) madeFiles() []api.File {
	return slices.SortedFunc(maps.Values(m.made), func(f, g api.File) int { return cmp.Compare(f.Path, g.Path) })
}
