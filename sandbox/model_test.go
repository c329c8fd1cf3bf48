package sandbox_test

import (
	"crypto/sha256"
	"fmt"
	"regexp"
	"slices"
	"strconv"
	"strings"

	"foundry/api"
)

// A model of commands: lines are taken apart by patterns, and each is done on what the lines ahead left.

const (
	nameForm = `(?:[a-z0-9_-][a-z0-9_.-]{0,19}|\.[a-z0-9_-][a-z0-9_.-]{0,18}|\.\.[a-z0-9_.-]{1,18})`
	pathForm = `(` + nameForm + `(?:/` + nameForm + `)*)`
	regForm  = `([a-h])`
	intForm  = `(0|[1-9][0-9]{0,5})`
)

var lineForms = map[string]*regexp.Regexp{
	"set":  regexp.MustCompile(`^set ` + regForm + ` ((?s:.*))$`),
	"read": regexp.MustCompile(`^read ` + regForm + ` ` + pathForm + `$`),
	"list": regexp.MustCompile(`^list ` + regForm + ` (\.|` + nameForm + `(?:/` + nameForm + `)*)$`),
	"join": regexp.MustCompile(`^join ` + regForm + ` ` + regForm + `$`),
	"cut":  regexp.MustCompile(`^cut ` + regForm + ` ` + intForm + ` ` + intForm + `$`),
	"size": regexp.MustCompile(`^size ` + regForm + ` ` + regForm + `$`),
	"sum":  regexp.MustCompile(`^sum ` + regForm + `$`),
	"make": regexp.MustCompile(`^make ` + pathForm + ` ` + regForm + `$`),
	"run":  regexp.MustCompile(`^run ` + pathForm + ` ` + regForm + `$`),
	"same": regexp.MustCompile(`^same ` + regForm + ` ` + regForm + ` ` + intForm + `$`),
	"less": regexp.MustCompile(`^less ` + regForm + ` ` + regForm + ` ` + intForm + `$`),
	"goto": regexp.MustCompile(`^goto ` + intForm + `$`),
	"exit": regexp.MustCompile(`^exit ` + intForm + `$`),
}

// takenApart: a line's first word, and what stands behind it; nothing, if it is none.
func takenApart(s string, lines int) []string {
	for word, form := range lineForms {
		parts := form.FindStringSubmatch(s)
		if parts == nil {
			continue
		}
		parts[0] = word
		last, _ := strconv.Atoi(parts[len(parts)-1])
		switch word {
		case "same", "less", "goto":
			if last > lines {
				return nil
			}
		case "exit":
			if last > 99 {
				return nil
			}
		case "read", "list":
			if len(parts[2]) > api.MaxPath {
				return nil
			}
		case "make", "run":
			if len(parts[1]) > api.MaxPath {
				return nil
			}
		}
		return parts
	}
	return nil
}

func checkModel(command []string) (int, api.Errno) {
	if len(command) > api.MaxFiles {
		return 0, api.ErrMany
	}
	for _, s := range command {
		if len(s) > api.MaxText {
			return 0, api.ErrMany
		}
	}
	for i, s := range command {
		if takenApart(s, len(command)) == nil {
			return i, api.ErrForm
		}
	}
	return 0, api.OK
}

// ran is what came of a command.
type ran struct {
	made        []api.File
	code, spent int
}

// runModel of a command that is right.
func runModel(files []api.File, command []string, fuel int) ran {
	var lines [][]string
	for _, s := range command {
		lines = append(lines, takenApart(s, len(command)))
	}
	texts := map[string]string{}
	r := ran{}
	for at := 0; at < len(lines); {
		p := lines[at]
		at++
		code, text, made := 0, "", slices.Clone(r.made)
		switch p[0] {
		case "set":
			text = p[2]
		case "read":
			i := slices.IndexFunc(files, func(f api.File) bool { return f.Path == p[2] })
			if i < 0 {
				code = api.CodeNone
			} else {
				text = files[i].Text
			}
		case "list":
			for _, f := range files {
				if p[2] == "." || strings.HasPrefix(f.Path, p[2]+"/") {
					text += f.Path + "\n"
				}
			}
		case "join":
			text = texts[p[1]] + texts[p[2]]
		case "cut":
			n, _ := strconv.Atoi(p[2])
			m, _ := strconv.Atoi(p[3])
			for i, c := range []byte(texts[p[1]]) {
				if n <= i && i < m {
					text += string([]byte{c})
				}
			}
		case "size":
			text = fmt.Sprint(len(texts[p[2]]))
		case "sum":
			text = fmt.Sprintf("%x", sha256.Sum256([]byte(texts[p[1]])))
		case "make", "run":
			text = texts[p[2]]
			made = slices.DeleteFunc(made, func(f api.File) bool { return f.Path == p[1] })
			for _, f := range made {
				if strings.HasPrefix(f.Path, p[1]+"/") || strings.HasPrefix(p[1], f.Path+"/") {
					code = api.CodePath
				}
			}
			made = append(made, api.File{Path: p[1], Text: text, Run: p[0] == "run"})
			if len(made) > api.MaxFiles {
				code = api.CodePath
			}
		}
		if len(text) > api.MaxText {
			code = api.CodeLong
		}
		need := 1
		if code == 0 {
			need += len(text) / 16
		}
		if r.spent+need > fuel {
			r.code, r.spent = api.CodeFuel, fuel
			return r.sorted()
		}
		r.spent += need
		if code != 0 {
			r.code = code
			return r.sorted()
		}
		switch p[0] {
		case "make", "run":
			r.made = made
		case "same", "less":
			if p[0] == "same" && texts[p[1]] == texts[p[2]] || p[0] == "less" && strings.Compare(texts[p[1]], texts[p[2]]) < 0 {
				at, _ = strconv.Atoi(p[3])
			}
		case "goto":
			at, _ = strconv.Atoi(p[1])
		case "exit":
			r.code, _ = strconv.Atoi(p[1])
			return r.sorted()
		default:
			texts[p[1]] = text
		}
	}
	return r.sorted()
}

func (r ran) sorted() ran {
	slices.SortFunc(r.made, func(f, g api.File) int { return strings.Compare(f.Path, g.Path) })
	return r
}
