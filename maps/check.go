package maps

import (
	"windrose/api"
	"windrose/topo"
)

// maxId is the greatest Id of a node.
const maxId = 999

// Check tells why a map may not be.
func Check(m api.Map) api.Errno {
	if !within(m.Epoch, 0, api.MaxCount) || !mayCount(m.Size, m.Min, m.Groups) || topo.Check(m.Nodes) != api.OK ||
		!mayStand(m) || !mayTrail(m) {
		return api.ErrArg
	}
	return api.OK
}

func within(x, least, greatest int) bool { return x >= least && x <= greatest }

func mayCount(size, least, groups int) bool {
	return within(size, 1, api.MaxSize) && within(least, 1, size) && within(groups, 1, api.MaxGroups)
}

// mayStand tells whether the Temps of a map may be.
func mayStand(m api.Map) bool {
	next := 0
	for _, t := range m.Temps {
		if !within(t.Group, next, m.Groups-1) || !within(len(t.Nodes), 1, m.Size) || !topo.Apart(m.Nodes, t.Nodes) {
			return false
		}
		next = t.Group + 1
	}
	return true
}

// mayTrail tells whether the Trails of a map may be.
func mayTrail(m api.Map) bool {
	if len(m.Trails) != m.Groups {
		return false
	}
	for _, t := range m.Trails {
		if !within(t.Since, 0, m.Epoch) || !mayPast(m, t) {
			return false
		}
	}
	return true
}

func mayPast(m api.Map, t api.Trail) bool {
	next := 0
	// By a key, not two by two: of numbers up to 999 there may be a great many spans.
	froms := map[[api.MaxSize]int]int{}
	for _, s := range t.Past {
		if !within(s.From, next, t.Since-1) || !maySpan(m, s) {
			return false
		}
		var key [api.MaxSize]int
		copy(key[:], s.Nodes)
		if _, twice := froms[key]; twice {
			return false
		}
		froms[key] = s.From
		next = s.From + 1
	}
	return true
}

func maySpan(m api.Map, s api.Span) bool {
	if !within(len(s.Nodes), m.Min, m.Size) {
		return false
	}
	next := 1
	for _, id := range s.Nodes {
		if !within(id, next, maxId) {
			return false
		}
		next = id + 1
	}
	return true
}
