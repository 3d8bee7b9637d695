package maps

import (
	"slices"

	"windrose/api"
	"windrose/topo"
)

// refusal is why a map that may be has none behind that delta.
func refusal(m api.Map, d api.Delta) api.Errno {
	if !mayBe(d) {
		return api.ErrArg
	}
	if m.Epoch == api.MaxCount {
		return api.ErrFull
	}
	switch d.Kind {
	case api.DeltaNone:
		return api.OK
	case api.DeltaAdd:
		return refusalToAdd(m, d)
	case api.DeltaTemp:
		return refusalToPin(m, d)
	case api.DeltaClean:
		return refusalToClean(m, d)
	}
	at, ok := node(m, d.Node)
	if !ok {
		return api.ErrNone
	}
	return refusalOfNode(m, m.Nodes[at], d)
}

// mayBe tells whether a delta is of a kind, and has nothing that its kind does not ask.
func mayBe(d api.Delta) bool {
	rest := d
	switch d.Kind {
	case api.DeltaAdd:
		rest.Node, rest.Zone, rest.Rack, rest.Weight = 0, 0, 0, 0
	case api.DeltaWeight:
		rest.Node, rest.Weight = 0, 0
	case api.DeltaUp, api.DeltaDown, api.DeltaOut, api.DeltaIn, api.DeltaRemove:
		rest.Node = 0
	case api.DeltaTemp:
		rest.Group, rest.Nodes = 0, nil
	case api.DeltaNone:
	case api.DeltaClean:
		rest.Group, rest.Weight = 0, 0
	default:
		return false
	}
	return rest.Node == 0 && rest.Zone == 0 && rest.Rack == 0 && rest.Weight == 0 && rest.Group == 0 && len(rest.Nodes) == 0
}

func refusalToAdd(m api.Map, d api.Delta) api.Errno {
	if _, ok := node(m, d.Node); ok {
		return api.ErrSame
	}
	if len(m.Nodes) == api.MaxNodes {
		return api.ErrFull
	}
	return topo.Check([]api.Node{added(d)})
}

// added is the node that a DeltaAdd adds.
func added(d api.Delta) api.Node {
	return api.Node{Id: d.Node, Zone: d.Zone, Rack: d.Rack, Weight: d.Weight, In: true}
}

func refusalToPin(m api.Map, d api.Delta) api.Errno {
	if !hasGroup(m, d.Group) || len(d.Nodes) > m.Size {
		return api.ErrArg
	}
	var stands []int
	if at, ok := temp(m, d.Group); ok {
		stands = m.Temps[at].Nodes
	}
	if slices.Equal(stands, d.Nodes) {
		return api.ErrSame
	}
	if !topo.Apart(m.Nodes, d.Nodes) {
		return api.ErrZone
	}
	return api.OK
}

func refusalToClean(m api.Map, d api.Delta) api.Errno {
	if !hasGroup(m, d.Group) {
		return api.ErrArg
	}
	t := m.Trails[d.Group]
	if t.Since != d.Weight {
		return api.ErrNone
	}
	if len(t.Past) == 0 {
		return api.ErrSame
	}
	return api.OK
}

// refusalOfNode is why a delta of a node that is there is refused.
func refusalOfNode(m api.Map, n api.Node, d api.Delta) api.Errno {
	if d.Kind == api.DeltaRemove {
		if n.Up || n.In && n.Weight > 0 || needed(m, n.Id) {
			return api.ErrWait
		}
		return api.OK
	}
	if d.Kind == api.DeltaWeight && !within(d.Weight, 0, api.MaxWeight) {
		return api.ErrArg
	}
	if turned(n, d) == n {
		return api.ErrSame
	}
	return api.OK
}

// needed tells whether a group stands on a node for a time, or may have to ask it.
func needed(m api.Map, id int) bool {
	for _, t := range m.Temps {
		if slices.Contains(t.Nodes, id) {
			return true
		}
	}
	for _, t := range m.Trails {
		for _, s := range t.Past {
			if slices.Contains(s.Nodes, id) {
				return true
			}
		}
	}
	return false
}

// turned is a node behind a delta that leaves it there.
func turned(n api.Node, d api.Delta) api.Node {
	switch d.Kind {
	case api.DeltaWeight:
		n.Weight = d.Weight
	case api.DeltaUp:
		n.Up = true
	case api.DeltaDown:
		n.Up = false
	case api.DeltaOut:
		n.In = false
	case api.DeltaIn:
		n.In = true
	}
	return n
}

// turn makes m the map behind a delta that nothing refuses. All lists of m are its own.
func turn(m *api.Map, d api.Delta) {
	ahead := make([][]int, m.Groups)
	for group := range ahead {
		if concerns(d, group) {
			ahead[group] = acting(*m, group)
		}
	}
	change(m, d)
	m.Epoch++
	for group, acted := range ahead {
		if concerns(d, group) && !slices.Equal(acted, acting(*m, group)) {
			leave(m, group, acted)
		}
	}
}

// concerns tells whether a delta can change who acts for a group. Where it can't they are not drawn, for that takes long.
func concerns(d api.Delta, group int) bool {
	switch d.Kind {
	case api.DeltaNone, api.DeltaClean:
		return false
	case api.DeltaTemp:
		return group == d.Group
	}
	return true
}

func change(m *api.Map, d api.Delta) {
	switch d.Kind {
	case api.DeltaNone:
	case api.DeltaTemp:
		pin(m, d)
	case api.DeltaClean:
		m.Trails[d.Group].Past = nil
	default:
		changeNode(m, d)
	}
}

func changeNode(m *api.Map, d api.Delta) {
	at, _ := node(*m, d.Node)
	switch d.Kind {
	case api.DeltaAdd:
		m.Nodes = slices.Insert(m.Nodes, at, added(d))
	case api.DeltaRemove:
		m.Nodes = slices.Delete(m.Nodes, at, at+1)
	default:
		m.Nodes[at] = turned(m.Nodes[at], d)
	}
}

func pin(m *api.Map, d api.Delta) {
	at, ok := temp(*m, d.Group)
	if ok {
		m.Temps = slices.Delete(m.Temps, at, at+1)
	}
	if len(d.Nodes) > 0 {
		m.Temps = slices.Insert(m.Temps, at, api.Temp{Group: d.Group, Nodes: copied(d.Nodes)})
	}
}

// leave makes a group's trail go on where others act than those who acted. The order of Acting counts, for its first one leads; in a Span it does not.
func leave(m *api.Map, group int, acted []int) {
	t := &m.Trails[group]
	if len(acted) >= m.Min {
		slices.Sort(acted)
		t.Past = slices.DeleteFunc(t.Past, func(s api.Span) bool { return slices.Equal(s.Nodes, acted) })
		t.Past = append(t.Past, api.Span{From: t.Since, Nodes: acted})
	}
	t.Since = m.Epoch
}
