package maps_test

import (
	"fmt"
	"slices"
	"strings"

	"windrose/api"
)

// slowRefusal is what is refused, by the chapter's table.
func slowRefusal(m api.Map, d api.Delta) api.Errno {
	asked := asks(d.Kind)
	fields := []struct {
		name string
		n    int
	}{{"Node", d.Node}, {"Zone", d.Zone}, {"Rack", d.Rack}, {"Weight", d.Weight}, {"Group", d.Group}, {"Nodes", len(d.Nodes)}}
	for _, f := range fields {
		if f.n != 0 && !slices.Contains(strings.Fields(asked), f.name) {
			return api.ErrArg
		}
	}
	if asked == "" {
		return api.ErrArg
	}
	if m.Epoch == top {
		return api.ErrFull
	}
	n, there := slowFind(m, d.Node)
	first := func(l ...api.Errno) api.Errno { // of those that are not OK
		for _, e := range l {
			if e != api.OK {
				return e
			}
		}
		return api.OK
	}
	when := func(e api.Errno, yes bool) api.Errno {
		if yes {
			return e
		}
		return api.OK
	}
	none := when(api.ErrNone, !there)
	heavy := when(api.ErrArg, d.Weight < 0 || d.Weight > topWeight)
	noGroup := when(api.ErrArg, d.Group < 0 || d.Group >= m.Groups)
	switch d.Kind {
	case api.DeltaAdd:
		spots := d.Node >= 1 && d.Node <= 999 && d.Zone >= 1 && d.Zone <= 9 && d.Rack >= 1 && d.Rack <= 9
		return first(when(api.ErrSame, there), when(api.ErrFull, len(m.Nodes) >= 12), heavy, when(api.ErrArg, !spots))
	case api.DeltaWeight:
		return first(none, heavy, when(api.ErrSame, n.Weight == d.Weight))
	case api.DeltaUp:
		return first(none, when(api.ErrSame, n.Up))
	case api.DeltaDown:
		return first(none, when(api.ErrSame, !n.Up))
	case api.DeltaIn:
		return first(none, when(api.ErrSame, n.In))
	case api.DeltaOut:
		return first(none, when(api.ErrSame, !n.In))
	case api.DeltaRemove:
		return first(none, when(api.ErrWait, n.Up || n.In && n.Weight > 0 || named(m, d.Node)))
	case api.DeltaTemp:
		stands := ""
		for _, t := range m.Temps {
			if t.Group == d.Group {
				stands = fmt.Sprint(t.Nodes)
			}
		}
		wanted := fmt.Sprint(d.Nodes)
		if len(d.Nodes) == 0 {
			wanted = ""
		}
		return first(noGroup, when(api.ErrArg, len(d.Nodes) > m.Size), when(api.ErrSame, stands == wanted),
			when(api.ErrZone, !slowApart(m, d.Nodes)))
	case api.DeltaClean:
		if noGroup != api.OK {
			return noGroup
		}
		t := m.Trails[d.Group]
		return first(when(api.ErrNone, t.Since != d.Weight), when(api.ErrSame, len(t.Past) == 0))
	}
	return api.OK
}

// named tells whether a node is in a Temp, or in a Span.
func named(m api.Map, id int) bool {
	var l []int
	for _, t := range m.Temps {
		l = append(l, t.Nodes...)
	}
	for _, t := range m.Trails {
		for _, s := range t.Past {
			l = append(l, s.Nodes...)
		}
	}
	return slices.Contains(l, id)
}

// slowApply is the map behind a delta, by the chapter's words.
func slowApply(m api.Map, d api.Delta) (api.Map, api.Errno) {
	if !slowMay(m) {
		return api.Map{}, api.ErrArg
	}
	if e := slowRefusal(m, d); e != api.OK {
		return m, e
	}
	told := api.Map{Epoch: m.Epoch + 1, Size: m.Size, Min: m.Min, Groups: m.Groups}
	told.Nodes = slowNodes(m.Nodes, d)
	for group := range m.Groups { // from the lowest on, so that they rise
		if d.Kind == api.DeltaTemp && d.Group == group {
			if len(d.Nodes) > 0 {
				told.Temps = append(told.Temps, api.Temp{Group: group, Nodes: slices.Clone(d.Nodes)})
			}
			continue
		}
		for _, t := range m.Temps {
			if t.Group == group {
				told.Temps = append(told.Temps, t)
			}
		}
	}
	for group, t := range m.Trails {
		if d.Kind == api.DeltaClean && d.Group == group {
			t.Past = nil
		}
		told.Trails = append(told.Trails, slowTrail(t, m.Min, slowActing(m, group), slowActing(told, group), told.Epoch))
	}
	return told, api.OK
}

func slowNodes(l []api.Node, d api.Delta) []api.Node {
	var told []api.Node
	for _, n := range l {
		if n.Id == d.Node {
			switch d.Kind {
			case api.DeltaWeight:
				n.Weight = d.Weight
			case api.DeltaUp, api.DeltaDown:
				n.Up = d.Kind == api.DeltaUp
			case api.DeltaIn, api.DeltaOut:
				n.In = d.Kind == api.DeltaIn
			case api.DeltaRemove:
				continue
			}
		}
		told = append(told, n)
	}
	if d.Kind == api.DeltaAdd {
		told = append(told, api.Node{Id: d.Node, Zone: d.Zone, Rack: d.Rack, Weight: d.Weight, In: true})
		slices.SortFunc(told, func(a, b api.Node) int { return a.Id - b.Id })
	}
	return told
}

func slowTrail(t api.Trail, least int, was, is []int, epoch int) api.Trail {
	if fmt.Sprint(was) == fmt.Sprint(is) {
		return t
	}
	told := api.Trail{Since: epoch, Past: t.Past}
	if len(was) >= least {
		rising := slices.Sorted(slices.Values(was))
		told.Past = nil
		for _, s := range t.Past {
			if fmt.Sprint(s.Nodes) != fmt.Sprint(rising) {
				told.Past = append(told.Past, s)
			}
		}
		told.Past = append(told.Past, api.Span{From: t.Since, Nodes: rising})
	}
	return told
}

// slowNext is Next, by the chapter's words, of a map that may be.
func slowNext(m api.Map, d api.Delta) api.Map {
	told, e := slowApply(m, d)
	if e != api.OK && m.Epoch < top {
		told.Epoch++
	}
	return told
}
