package eval

import (
	"maps"
	"slices"
	"strings"
)

// glob: the paths that fit one of some forms, rising.
func (r *runner) glob(forms []string) []string {
	var paths []string
	for _, path := range slices.Sorted(maps.Keys(r.sources)) {
		if slices.ContainsFunc(forms, func(form string) bool { return fits(path, form) }) {
			paths = append(paths, path)
		}
	}
	return paths
}

// fits tells whether a path fits a form. The last star takes as little as it can; where that does not go on, it takes one byte more. (Of the stars ahead of it none need take more: what came behind them came as early as it could.)
func fits(path, form string) bool {
	at, next := 0, 0       // how far one is in the path, and in the form
	taken, behind := 0, -1 // up to where in the path the last star takes, and what is behind it in the form
	for at < len(path) {
		switch {
		case next < len(form) && form[next] == '*':
			next++
			taken, behind = at, next
		case next < len(form) && form[next] == path[at]:
			at++
			next++
		case behind >= 0 && path[taken] != '/':
			taken++
			at, next = taken, behind
		default:
			return false
		}
	}
	return strings.Trim(form[next:], "*") == ""
}
