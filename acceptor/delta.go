package acceptor

import (
	"slices"

	"windrose/api"
)

// CheckDelta tells why a delta may not be told.
func CheckDelta(d api.Delta) api.Errno {
	kept, ok := asked(d)
	if !ok || !SameDelta(d, kept) || !mayCount(d.Node, d.Zone, d.Rack, d.Weight, d.Group) {
		return api.ErrArg
	}
	if len(d.Nodes) > api.MaxSize || !mayCount(d.Nodes...) {
		return api.ErrArg
	}
	return api.OK
}

// asked is what its kind asks of a delta, all else nought, and whether there is such a kind.
func asked(d api.Delta) (api.Delta, bool) {
	kept := api.Delta{Kind: d.Kind}
	switch d.Kind {
	case api.DeltaAdd:
		kept.Node, kept.Zone, kept.Rack, kept.Weight = d.Node, d.Zone, d.Rack, d.Weight
	case api.DeltaWeight:
		kept.Node, kept.Weight = d.Node, d.Weight
	case api.DeltaUp, api.DeltaDown, api.DeltaOut, api.DeltaIn, api.DeltaRemove:
		kept.Node = d.Node
	case api.DeltaTemp:
		kept.Group, kept.Nodes = d.Group, d.Nodes
	case api.DeltaNone:
	case api.DeltaClean:
		kept.Group, kept.Weight = d.Group, d.Weight
	default:
		return api.Delta{}, false
	}
	return kept, true
}

func mayCount(l ...int) bool {
	for _, x := range l {
		if !within(x, 0, api.MaxCount) {
			return false
		}
	}
	return true
}

// SameDelta tells whether deltas are alike.
func SameDelta(a, b api.Delta) bool {
	return a.Kind == b.Kind && a.Node == b.Node && a.Zone == b.Zone && a.Rack == b.Rack && a.Weight == b.Weight &&
		a.Group == b.Group && slices.Equal(a.Nodes, b.Nodes)
}

// copyOf is a delta whose list is its own.
func copyOf(d api.Delta) api.Delta {
	d.Nodes = append([]int(nil), d.Nodes...)
	return d
}
