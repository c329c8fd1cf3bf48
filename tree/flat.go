package tree

import (
	"foundry/api"
	"foundry/digest"
	"foundry/wire"
)

// walk goes through directories, and has the files that it met, as it met them.
type walk struct {
	blobs []string
	at    map[string]int // where the text with a digest stands in blobs
	files []api.File
}

func newWalk(blobs []string) *walk {
	w := &walk{blobs: blobs, at: make(map[string]int, len(blobs))}
	for i, text := range blobs {
		w.at[digest.Sum(text)] = i
	}
	return w
}

func (w *walk) text(d string) (string, api.Errno) {
	i, there := w.at[d]
	if !there {
		return "", api.ErrNone
	}
	return w.blobs[i], api.OK
}

// nodes of the directory with a digest.
func (w *walk) nodes(d string) ([]api.Node, api.Errno) {
	text, e := w.text(d)
	if e != api.OK {
		return nil, e
	}
	return wire.ReadNodes(text)
}

func (w *walk) whole(root string) api.Errno {
	nodes, e := w.nodes(root)
	if e != api.OK {
		return e
	}
	return w.each(nodes, "")
}

// each goes through the nodes of a directory; ahead is what stands ahead of their names.
func (w *walk) each(nodes []api.Node, ahead string) api.Errno {
	for _, n := range nodes {
		step := w.file
		if n.Kind == api.NodeTree {
			step = w.directory
		}
		if e := step(n, ahead+n.Name); e != api.OK {
			return e
		}
	}
	return api.OK
}

func (w *walk) file(n api.Node, path string) api.Errno {
	text, e := w.text(n.Digest)
	if e != api.OK {
		return e
	}
	if len(path) > api.MaxPath || len(w.files) == api.MaxFiles {
		return api.ErrMany
	}
	w.files = append(w.files, api.File{Path: path, Text: text, Run: n.Kind == api.NodeRun})
	return api.OK
}

func (w *walk) directory(n api.Node, path string) api.Errno {
	nodes, e := w.nodes(n.Digest)
	switch {
	case e != api.OK:
		return e
	case len(nodes) == 0:
		return api.ErrState
	case len(path) > api.MaxPath:
		return api.ErrMany
	}
	return w.each(nodes, path+"/")
}
