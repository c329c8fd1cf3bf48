package eval

import (
	"slices"

	"foundry/api"
	"foundry/wire"
)

// rule declares a target.
func (r *runner) rule(h handed) value {
	giveUpIf(len(h.names) < len(h.values), api.ErrType)
	t := newTarget(h)
	giveUpIf(!slices.Contains(h.names, "name"), api.ErrMany)
	giveUpIf(!wire.IsName(t.Name), api.ErrForm)
	giveUpIf(slices.ContainsFunc(r.targets, func(o api.Target) bool { return o.Name == t.Name }), api.ErrTwice)
	giveUpIf(len(r.targets) == api.MaxFiles, api.ErrMany)
	r.targets = append(r.targets, t)
	return text(t.Name)
}

// newTarget of what is handed in, all by names.
func newTarget(h handed) api.Target {
	var t api.Target
	for i, name := range h.names {
		v := h.values[i]
		switch name {
		case "name":
			t.Name = asText(v)
		case "sources":
			t.Sources = asTexts(v)
		case "needs":
			t.Needs = asTexts(v)
		case "outs":
			t.Outs = asTexts(v)
		case "command":
			t.Command = asTexts(v)
		default:
			panic(api.ErrNone)
		}
	}
	return t
}
