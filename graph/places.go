package graph

import (
	"slices"

	"foundry/api"
	"foundry/tree"
	"foundry/wire"
)

// places that are taken: by files, and by what targets make that were looked at.
type places struct {
	files map[string]struct{}
	taken []string
}

func newPlaces(files []api.File) *places {
	p := &places{files: map[string]struct{}{}}
	for _, f := range files {
		p.files[f.Path] = struct{}{}
		p.taken = append(p.taken, f.Path)
	}
	return p
}

func isNoPath(s string) bool { return !wire.IsPath(s) }

func (p *places) isNoFile(path string) bool {
	_, there := p.files[path]
	return !there
}

// targetError of a target; if there is none, it takes its places.
func (p *places) targetError(t api.Target) api.Errno {
	switch {
	case slices.ContainsFunc(t.Sources, p.isNoFile):
		return api.ErrNone
	case slices.ContainsFunc(t.Outs, isNoPath):
		return api.ErrForm
	case max(len(t.Sources), len(t.Outs), len(t.Command)) > api.MaxFiles:
		return api.ErrMany
	case !p.take(t.Outs):
		return api.ErrTwice
	}
	return api.OK
}

// take places, one by one; false, if one of them meets one that is taken already.
func (p *places) take(paths []string) bool {
	for _, path := range paths {
		if slices.ContainsFunc(p.taken, func(other string) bool { return tree.Meets(path, other) }) {
			return false
		}
		p.taken = append(p.taken, path)
	}
	return true
}
