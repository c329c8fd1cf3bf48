package wire

import (
	"slices"

	"foundry/api"
	"foundry/digest"
)

func isNameByte(c byte) bool {
	return 'a' <= c && c <= 'z' || '0' <= c && c <= '9' || c == '_' || c == '-' || c == '.'
}

func isNoNumber(n int) bool { return n < 0 || n > api.MaxNumber }

func isNoPath(s string) bool { return !IsPath(s) }

func isNoKind(kind int) bool {
	return kind != api.NodeFile && kind != api.NodeRun && kind != api.NodeTree
}

func isTooLong(s string) bool { return len(s) > api.MaxText }

// rises tells whether a list rises by a text that each of it has.
func rises[T any](l []T, text func(T) string) bool {
	for i := 1; i < len(l); i++ {
		if text(l[i-1]) >= text(l[i]) {
			return false
		}
	}
	return true
}

func itself(s string) string { return s }

func nodeName(n api.Node) string { return n.Name }

func textsError(l []string) api.Errno {
	if len(l) > api.MaxTexts || slices.ContainsFunc(l, isTooLong) {
		return api.ErrMany
	}
	return api.OK
}

func nodesError(l []api.Node) api.Errno {
	if len(l) > api.MaxFiles {
		return api.ErrMany
	}
	for _, n := range l {
		if e := nodeError(n); e != api.OK {
			return e
		}
	}
	if !rises(l, nodeName) {
		return api.ErrTwice
	}
	return api.OK
}

func nodeError(n api.Node) api.Errno {
	if !IsName(n.Name) || !digest.Is(n.Digest) {
		return api.ErrForm
	}
	if isNoKind(n.Kind) {
		return api.ErrKind
	}
	return api.OK
}

func actionError(a api.Action) api.Errno {
	switch {
	case len(a.Command) > api.MaxFiles, len(a.Outputs) > api.MaxFiles, slices.ContainsFunc(a.Command, isTooLong):
		return api.ErrMany
	case !digest.Is(a.Input), slices.ContainsFunc(a.Outputs, isNoPath):
		return api.ErrForm
	case !rises(a.Outputs, itself):
		return api.ErrTwice
	case isNoNumber(a.Fuel):
		return api.ErrRange
	}
	return api.OK
}

func resultError(r api.Result) api.Errno {
	if isNoNumber(r.Code) || isNoNumber(r.Spent) {
		return api.ErrRange
	}
	if !digest.Is(r.Output) {
		return api.ErrForm
	}
	return api.OK
}
