package tree

import (
	"cmp"
	"maps"
	"slices"

	"foundry/api"
	"foundry/wire"
)

func isTooLong(s string) bool { return len(s) > api.MaxText }

func fileError(f api.File) api.Errno {
	if !wire.IsPath(f.Path) {
		return api.ErrForm
	}
	if isTooLong(f.Text) {
		return api.ErrMany
	}
	return api.OK
}

// firstError is that of the first of some trees which has one.
func firstError(trees ...[]api.File) api.Errno {
	for _, l := range trees {
		if e := Check(l); e != api.OK {
			return e
		}
	}
	return api.OK
}

func comparePaths(a, b api.File) int { return cmp.Compare(a.Path, b.Path) }

// isInside tells whether a path begins with that of a directory and a slash.
func isInside(path, dir string) bool {
	return len(path) > len(dir) && path[len(dir)] == '/' && path[:len(dir)] == dir
}

func byPath(l []api.File) map[string]api.File {
	files := make(map[string]api.File, len(l))
	for _, f := range l {
		files[f.Path] = f
	}
	return files
}

// someGoThrough tells whether a path of a list has a file where it needs a directory. That file need not stand next to it: `a-b` comes between `a` and `a/b`.
func someGoThrough(l []api.File, files map[string]api.File) bool {
	return slices.ContainsFunc(l, func(f api.File) bool {
		for i := range len(f.Path) {
			if f.Path[i] != '/' {
				continue
			}
			if _, there := files[f.Path[:i]]; there {
				return true
			}
		}
		return false
	})
}

// laidOver are the files of both, rising; where both have a path, that of high.
func laidOver(low, high map[string]api.File) []api.File {
	both := maps.Clone(low)
	maps.Copy(both, high)
	return slices.SortedFunc(maps.Values(both), comparePaths)
}

// others are the paths of a list for which there is not the same file.
func others(l []api.File, files map[string]api.File) []string {
	var paths []string
	for _, f := range l {
		if files[f.Path] != f {
			paths = append(paths, f.Path)
		}
	}
	return paths
}
