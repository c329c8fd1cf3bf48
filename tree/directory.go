package tree

import (
	"cmp"
	"maps"
	"slices"
	"strings"

	"foundry/api"
	"foundry/digest"
	"foundry/wire"
)

// packed is how the directory is packed in which files lie that are known to be a tree, and all blobs of it, in no order.
func packed(l []api.File) (string, []string) {
	var nodes []api.Node
	var blobs []string
	inside := map[string][]api.File{}
	for _, f := range l {
		name, rest, deeper := strings.Cut(f.Path, "/")
		if deeper {
			f.Path = rest
			inside[name] = append(inside[name], f)
			continue
		}
		nodes = append(nodes, api.Node{Name: name, Kind: kindOf(f), Digest: digest.Sum(f.Text)})
		blobs = append(blobs, f.Text)
	}
	for _, name := range slices.Sorted(maps.Keys(inside)) {
		text, more := packed(inside[name])
		nodes = append(nodes, api.Node{Name: name, Kind: api.NodeTree, Digest: digest.Sum(text)})
		blobs = append(blobs, more...)
	}
	slices.SortFunc(nodes, compareNames)
	text, _ := wire.Nodes(nodes)
	return text, append(blobs, text)
}

func kindOf(f api.File) int {
	if f.Run {
		return api.NodeRun
	}
	return api.NodeFile
}

func compareNames(a, b api.Node) int { return cmp.Compare(a.Name, b.Name) }
