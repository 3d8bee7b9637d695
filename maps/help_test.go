package maps_test

import (
	"fmt"
	"math"
	"slices"

	"windrose/api"
	"windrose/place"
)

const (
	top       = 1<<31 - 1
	topWeight = 65536
)

// text is a map as a text: maps are alike if their texts are, for nil and the empty list are printed alike.
func text(m api.Map) string { return fmt.Sprintf("%+v", m) }

// all is a list with the room behind its end.
func all[T any](l []T) []T { return l[:cap(l)] }

// roomy is a list with room behind its end, in which something stands.
func roomy[T any](l []T, behind ...T) []T {
	return append(append(make([]T, 0, len(l)+len(behind)), l...), behind...)[:len(l)]
}

// deep is a copy of a map of which each list has room behind its end, in which something stands.
func deep(m api.Map) api.Map {
	m.Nodes = roomy(m.Nodes, api.Node{Id: 77, Zone: 7, Rack: 7, Weight: 7, Up: true}, api.Node{Id: 78})
	m.Temps = roomy(m.Temps, api.Temp{Group: 77, Nodes: []int{77}}, api.Temp{Group: 78})
	for i := range m.Temps {
		m.Temps[i].Nodes = roomy(m.Temps[i].Nodes, 77, 78)
	}
	m.Trails = roomy(m.Trails, api.Trail{Since: 77, Past: []api.Span{{From: 77}}}, api.Trail{Since: 78})
	for i := range m.Trails {
		past := roomy(m.Trails[i].Past, api.Span{From: 77, Nodes: []int{77}}, api.Span{From: 78})
		for j := range past {
			past[j].Nodes = roomy(past[j].Nodes, 77, 78)
		}
		m.Trails[i].Past = past
	}
	return m
}

// whole is a map as a text, with what stands behind the end of each list, and how much room that is.
func whole(m api.Map) string {
	told := fmt.Sprintln(m.Epoch, m.Size, m.Min, m.Groups, all(m.Nodes), len(m.Nodes), len(m.Temps), len(m.Trails))
	for _, t := range all(m.Temps) {
		told += fmt.Sprintln(t.Group, all(t.Nodes), len(t.Nodes))
	}
	for _, t := range all(m.Trails) {
		told += fmt.Sprintln(t.Since, len(t.Past))
		for _, s := range all(t.Past) {
			told += fmt.Sprintln(s.From, all(s.Nodes), len(s.Nodes))
		}
	}
	return told
}

// spots are the places in memory where lists of answers, or of arguments, lie, with the room behind their ends.
type spots map[any]int

func addresses[T any](s spots, l []T) {
	for i := range all(l) {
		s[&all(l)[i]]++
	}
}

func (s spots) add(m api.Map) {
	addresses(s, m.Nodes)
	addresses(s, m.Temps)
	for _, t := range all(m.Temps) {
		addresses(s, t.Nodes)
	}
	addresses(s, m.Trails)
	for _, t := range all(m.Trails) {
		addresses(s, t.Past)
		for _, p := range all(t.Past) {
			addresses(s, p.Nodes)
		}
	}
}

// shared tells whether one place is of two lists.
func (s spots) shared() bool {
	for _, n := range s {
		if n > 1 {
			return true
		}
	}
	return false
}

// with is a copy of a map, changed.
func with(m api.Map, change func(*api.Map)) api.Map {
	m = deep(m)
	change(&m)
	return m
}

// town has nodes of all kinds; groups 1 and 3 have a Temp, groups 1 and 2 a Past. Three zones weigh something: the groups without a Temp stand on three nodes.
func town() api.Map {
	return api.Map{
		Epoch: 50, Size: 3, Min: 2, Groups: 4,
		Nodes: []api.Node{
			{Id: 3, Zone: 1, Rack: 1, Weight: 100, Up: true, In: true},
			{Id: 5, Zone: 1, Rack: 2, Weight: 0, In: true},
			{Id: 8, Zone: 2, Rack: 1, Weight: 300, Up: true, In: true},
			{Id: 9, Zone: 2, Rack: 1, Weight: 50, In: true},
			{Id: 11, Zone: 3, Rack: 1, Weight: 200, Up: true, In: true},
			{Id: 14, Zone: 3, Rack: 2, Weight: 70},
			{Id: 20, Zone: 4, Rack: 1, Weight: 10},
			{Id: 21, Zone: 4, Rack: 2, Weight: 10},
			{Id: 30, Zone: 5, Rack: 9, Weight: topWeight, Up: true},
		},
		Temps: []api.Temp{{Group: 1, Nodes: []int{8, 20, 3}}, {Group: 3, Nodes: []int{11}}},
		Trails: []api.Trail{
			{Since: 40},
			{Since: 30, Past: []api.Span{{From: 4, Nodes: []int{3, 8}}, {From: 29, Nodes: []int{8, 999}}}},
			{Since: 50, Past: []api.Span{{From: 0, Nodes: []int{1, 2, 3}}, {From: 7, Nodes: []int{21, 900}}, {From: 49, Nodes: []int{3, 8, 11}}}},
			{},
		},
	}
}

// full is a map of 12 nodes.
func full() api.Map {
	m := api.Map{Epoch: 12, Size: 2, Min: 1, Groups: 1, Trails: make([]api.Trail, 1)}
	for i := range 12 {
		m.Nodes = append(m.Nodes, api.Node{Id: 10 + 10*i, Zone: 1 + i%9, Rack: 1, Weight: i, In: true})
	}
	return m
}

// chance is a row of numbers without a pattern, the same in each run.
type chance uint64

func (c *chance) next() uint64 {
	x := uint64(*c)
	x ^= x << 13
	x ^= x >> 7
	x ^= x << 17
	*c = chance(x)
	return x
}

func (c *chance) below(n int) int { return int(c.next() >> 33 % uint64(n)) }

// one is one of a list.
func one[T any](c *chance, l ...T) T { return l[c.below(len(l))] }

// id is that of a node that is there, or may be added, or, seldom, may not be.
func (c *chance) id(m api.Map) int {
	if len(m.Nodes) > 0 && c.below(3) > 0 {
		return one(c, m.Nodes...).Id
	}
	if c.below(12) == 0 {
		return one(c, -1, 0, 1000, math.MaxInt, math.MinInt)
	}
	return one(c, 1+c.below(30), 1+c.below(999), 1, 999)
}

func (c *chance) weight() int {
	if c.below(12) == 0 {
		return one(c, -1, topWeight+1, math.MaxInt, math.MinInt)
	}
	return one(c, 0, 0, 1, 5, 100, 1000, topWeight-1, topWeight)
}

func (c *chance) spot() int {
	if c.below(30) == 0 {
		return one(c, -1, 0, 10, math.MaxInt)
	}
	return 1 + c.below(one(c, 3, 9))
}

func (c *chance) group(m api.Map) int {
	if c.below(12) == 0 {
		return one(c, -1, m.Groups, m.Groups+1, 8, math.MaxInt, math.MinInt)
	}
	return c.below(m.Groups)
}

// pins are nodes where a group may stand for a time, or may not.
func (c *chance) pins(m api.Map) []int {
	var l []int
	for range c.below(m.Size + 2) {
		l = append(l, c.id(m))
	}
	return l
}

// delta is one for a map; now and then with something that its kind does not ask.
func (c *chance) delta(m api.Map) api.Delta {
	kinds := []int{api.DeltaAdd, api.DeltaAdd, api.DeltaAdd, api.DeltaWeight, api.DeltaWeight, api.DeltaUp, api.DeltaUp, api.DeltaUp, api.DeltaUp,
		api.DeltaDown, api.DeltaDown, api.DeltaOut, api.DeltaIn, api.DeltaIn, api.DeltaRemove, api.DeltaRemove, api.DeltaTemp,
		api.DeltaTemp, api.DeltaTemp, api.DeltaNone, api.DeltaClean}
	d := api.Delta{Kind: one(c, kinds...)}
	switch d.Kind {
	case api.DeltaAdd:
		d.Node, d.Zone, d.Rack, d.Weight = one(c, c.id(m), 1+c.below(30), 1+c.below(999)), c.spot(), c.spot(), c.weight()
	case api.DeltaWeight:
		d.Node, d.Weight = c.id(m), c.weight()
	case api.DeltaTemp:
		d.Group, d.Nodes = c.group(m), c.pins(m)
		if len(m.Temps) > 0 && c.below(6) == 0 {
			t := one(c, m.Temps...)
			d.Group, d.Nodes = t.Group, slices.Clone(t.Nodes)
			if a, b := c.below(len(d.Nodes)), c.below(len(d.Nodes)); c.below(2) == 0 {
				d.Nodes[a], d.Nodes[b] = d.Nodes[b], d.Nodes[a]
			}
		}
	case api.DeltaClean:
		d.Group, d.Weight = c.group(m), m.Epoch
		if d.Group >= 0 && d.Group < m.Groups && c.below(8) > 0 {
			d.Weight = m.Trails[d.Group].Since
		}
	case api.DeltaNone:
	default:
		d.Node = c.id(m)
	}
	if c.below(40) == 0 {
		spoil(c, &d)
	}
	return d
}

// spoil changes one field of a delta.
func spoil(c *chance, d *api.Delta) {
	if c.below(7) == 0 {
		d.Nodes = append(slices.Clone(d.Nodes), c.below(2))
		return
	}
	*one(c, &d.Kind, &d.Node, &d.Zone, &d.Rack, &d.Weight, &d.Group) = one(c, -1, 0, 1, 2, 11, 12, math.MaxInt, math.MinInt)
}

// run is a map of no nodes, and those behind it, delta by delta, as the slow reckoning has them.
func (c *chance) run(size, least, groups, steps int) ([]api.Map, []api.Delta) {
	m := api.Map{Size: size, Min: least, Groups: groups, Trails: make([]api.Trail, groups)}
	l := []api.Map{m}
	var deltas []api.Delta
	for range steps {
		d := c.delta(m)
		m = slowNext(m, d)
		l, deltas = append(l, m), append(deltas, d)
	}
	return l, deltas
}

// slowMay tells whether a map may be, by the chapter's words.
func slowMay(m api.Map) bool {
	if m.Epoch < 0 || m.Epoch > top || m.Size < 1 || m.Size > 3 || m.Min < 1 || m.Min > m.Size || m.Groups < 1 || m.Groups > 8 {
		return false
	}
	if len(m.Nodes) > 12 || len(m.Trails) != m.Groups {
		return false
	}
	for i, n := range m.Nodes {
		if n.Id < 1 || n.Id > 999 || n.Zone < 1 || n.Zone > 9 || n.Rack < 1 || n.Rack > 9 || n.Weight < 0 || n.Weight > topWeight {
			return false
		}
		if i > 0 && m.Nodes[i-1].Id >= n.Id {
			return false
		}
	}
	for i, t := range m.Temps {
		if t.Group < 0 || t.Group >= m.Groups || i > 0 && m.Temps[i-1].Group >= t.Group {
			return false
		}
		if len(t.Nodes) < 1 || len(t.Nodes) > m.Size || !slowApart(m, t.Nodes) {
			return false
		}
	}
	for _, t := range m.Trails {
		if t.Since < 0 || t.Since > m.Epoch || !slowPast(m, t) {
			return false
		}
	}
	return true
}

func slowPast(m api.Map, t api.Trail) bool {
	for i, s := range t.Past {
		if s.From < 0 || s.From >= t.Since || i > 0 && t.Past[i-1].From >= s.From || len(s.Nodes) < m.Min || len(s.Nodes) > m.Size {
			return false
		}
		for j, id := range s.Nodes {
			if id < 1 || id > 999 || j > 0 && s.Nodes[j-1] >= id {
				return false
			}
		}
		for _, other := range t.Past[:i] {
			if fmt.Sprint(other.Nodes) == fmt.Sprint(s.Nodes) {
				return false
			}
		}
	}
	return true
}

func slowFind(m api.Map, id int) (api.Node, bool) {
	for _, n := range m.Nodes {
		if n.Id == id {
			return n, true
		}
	}
	return api.Node{}, false
}

// slowApart tells whether ids are nodes, none twice, no two of one zone.
func slowApart(m api.Map, ids []int) bool {
	for i, id := range ids {
		n, ok := slowFind(m, id)
		if !ok {
			return false
		}
		for _, other := range ids[:i] {
			if o, _ := slowFind(m, other); o.Zone == n.Zone {
				return false
			}
		}
	}
	return true
}

func slowRaw(m api.Map, group int) []int {
	for _, t := range m.Temps {
		if t.Group == group {
			return t.Nodes
		}
	}
	return place.Of(m.Nodes, group, m.Size)
}

func slowActing(m api.Map, group int) []int {
	var told []int
	for _, id := range slowRaw(m, group) {
		if n, ok := slowFind(m, id); ok && n.Up {
			told = append(told, id)
		}
	}
	return told
}

// asks is what a kind asks, by the chapter's table.
func asks(kind int) string {
	return map[int]string{
		api.DeltaAdd: "Node Zone Rack Weight", api.DeltaWeight: "Node Weight", api.DeltaUp: "Node", api.DeltaDown: "Node",
		api.DeltaOut: "Node", api.DeltaIn: "Node", api.DeltaRemove: "Node", api.DeltaTemp: "Group Nodes", api.DeltaNone: "nothing",
		api.DeltaClean: "Group Weight",
	}[kind]
}
