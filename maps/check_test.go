package maps_test

import (
	"math"
	"testing"

	"windrose/api"
	"windrose/maps"
)

func TestNew(t *testing.T) {
	strange := []int{math.MinInt, -1 << 32, -1, 0, 1, 2, 3, 4, 5, 7, 8, 9, 10, top, 1 << 32, 1<<32 + 1, math.MaxInt}
	right := 0
	for _, size := range strange {
		for _, least := range append(strange, size, size+1) {
			for _, groups := range strange {
				m, e := maps.New(size, least, groups)
				if size < 1 || size > 3 || least < 1 || least > size || groups < 1 || groups > 8 {
					if e != api.ErrArg || text(m) != text(api.Map{}) {
						t.Errorf("New(%d, %d, %d): %+v, %d", size, least, groups, m, e)
					}
					continue
				}
				right++
				want := api.Map{Size: size, Min: least, Groups: groups, Trails: make([]api.Trail, groups)}
				if e != api.OK || text(m) != text(want) || maps.Check(m) != api.OK {
					t.Errorf("New(%d, %d, %d): %+v, %d", size, least, groups, m, e)
				}
			}
		}
	}
	if right < 30 {
		t.Errorf("%d maps may be: too few to tell", right)
	}
}

// bare is a map without anything that hangs on its Size, Min and Groups.
func bare(size, least, groups int) api.Map {
	return api.Map{Epoch: 9, Size: size, Min: least, Groups: groups, Trails: make([]api.Trail, max(0, min(groups, 20)))}
}

// spans is a map of one group, whose Past is told.
func spans(size, least int, past ...api.Span) api.Map {
	return api.Map{Epoch: 20, Size: size, Min: least, Groups: 1, Trails: []api.Trail{{Since: 10, Past: past}}}
}

func span(from int, nodes ...int) api.Span { return api.Span{From: from, Nodes: nodes} }

// pinned is town with other Temps.
func pinned(l ...api.Temp) api.Map { return with(town(), func(m *api.Map) { m.Temps = l }) }

func pin(group int, nodes ...int) api.Temp { return api.Temp{Group: group, Nodes: nodes} }

// manySpans is a Past of all threes up to a number.
func manySpans(n int) []api.Span {
	var l []api.Span
	for a := 1; a <= n; a++ {
		for b := a + 1; b <= n; b++ {
			for c := b + 1; c <= n; c++ {
				l = append(l, span(len(l), a, b, c))
			}
		}
	}
	return l
}

// crowd is a map of a great many spans.
func crowd() api.Map {
	m := spans(3, 3, manySpans(40)...)
	m.Epoch, m.Trails[0].Since = top, top
	return m
}

func rightMaps() []api.Map {
	l := []api.Map{
		town(), full(), crowd(),
		with(town(), func(m *api.Map) { m.Epoch = top }),
		with(town(), func(m *api.Map) { m.Epoch, m.Trails[0].Since = top, top }),
		{Size: 1, Min: 1, Groups: 1, Trails: make([]api.Trail, 1)},
		{Epoch: top, Size: 1, Min: 1, Groups: 1, Trails: make([]api.Trail, 1)},
		with(town(), func(m *api.Map) { m.Trails[0].Since = 0 }),
		with(town(), func(m *api.Map) { m.Trails[0].Since = 50 }),
		pinned(), pinned(pin(0, 3)), pinned(pin(3, 30, 20, 14)), pinned(pin(0, 14, 5), pin(1, 5, 14), pin(2, 3), pin(3, 3)),
		pinned(pin(0, 20), pin(3, 21)), pinned(pin(2, 9, 30, 5)),
		spans(3, 1), spans(1, 1, span(0, 1)), spans(1, 1, span(9, 999)), spans(1, 1, span(0, 1), span(1, 2), span(2, 999)),
		spans(3, 1, span(0, 1), span(5, 1, 2), span(9, 1, 2, 999)), spans(3, 3, span(3, 997, 998, 999)),
		spans(3, 2, span(3, 1, 999), span(4, 1, 998), span(5, 1, 998, 999)), spans(2, 1, span(0, 2), span(1, 1)),
		{Epoch: 20, Size: 1, Min: 1, Groups: 2, Trails: []api.Trail{{Since: 9, Past: []api.Span{span(3, 5)}}, {Since: 8, Past: []api.Span{span(3, 5)}}}},
	}
	for groups := 1; groups <= 8; groups++ {
		l = append(l, bare(3, 1, groups), bare(3, 3, groups), bare(1, 1, groups), bare(2, 1, groups), bare(2, 2, groups))
	}
	return l
}

// wrongMaps are maps that may not be: each has one fault.
func wrongMaps() []api.Map {
	l := []api.Map{
		{},
		with(town(), func(m *api.Map) { m.Epoch = -1 }), with(town(), func(m *api.Map) { m.Epoch = 49 }),
		with(bare(1, 1, 1), func(m *api.Map) { m.Epoch = -1 }),
		with(town(), func(m *api.Map) { m.Epoch = top + 1 }), with(town(), func(m *api.Map) { m.Epoch = math.MaxInt }),
		with(town(), func(m *api.Map) { m.Epoch = math.MinInt }),
		bare(0, 0, 1), bare(0, 1, 1), bare(4, 1, 1), bare(-1, -1, 1), bare(math.MaxInt, 1, 1), bare(math.MinInt, 1, 1),
		bare(1, 0, 1), bare(1, 2, 1), bare(3, 0, 1), bare(3, 4, 1), bare(3, math.MinInt, 1), bare(3, math.MaxInt, 1),
		bare(1, 1, 0), bare(1, 1, 9), bare(1, 1, -1), bare(1, 1, math.MaxInt), bare(1, 1, math.MinInt),

		with(town(), func(m *api.Map) { m.Nodes[0].Id = 0 }), with(town(), func(m *api.Map) { m.Nodes[8].Id = 1000 }),
		with(town(), func(m *api.Map) { m.Nodes[5].Id = 11 }), with(town(), func(m *api.Map) { m.Nodes[5].Id = 10 }),
		with(town(), func(m *api.Map) { m.Nodes[5].Zone = 0 }), with(town(), func(m *api.Map) { m.Nodes[5].Zone = 10 }),
		with(town(), func(m *api.Map) { m.Nodes[5].Rack = 0 }), with(town(), func(m *api.Map) { m.Nodes[5].Rack = 10 }),
		with(town(), func(m *api.Map) { m.Nodes[5].Weight = -1 }), with(town(), func(m *api.Map) { m.Nodes[5].Weight = topWeight + 1 }),
		with(full(), func(m *api.Map) { m.Nodes = append(m.Nodes, api.Node{Id: 999, Zone: 1, Rack: 1}) }),

		pinned(pin(1, 3), pin(0, 3)), pinned(pin(1, 3), pin(1, 8)), pinned(pin(1, 3), pin(1, 3)), pinned(pin(0, 3), pin(3, 3), pin(2, 3)),
		pinned(pin(-1, 3)), pinned(pin(4, 3)), pinned(pin(0, 3), pin(4, 3)), pinned(pin(math.MaxInt, 3)), pinned(pin(math.MinInt, 3)),
		pinned(pin(0)), pinned(pin(0, 3), pin(1)), pinned(pin(0, 3, 8, 11, 20)), pinned(pin(0, 1)), pinned(pin(0, 3, 999)), pinned(pin(0, 0)),
		pinned(pin(0, 3, 5)), pinned(pin(0, 8, 11, 9)), pinned(pin(0, 3, 3)), pinned(pin(0, 3, 8, 3)), pinned(pin(0, 3), pin(2, 20, 21)),
		with(town(), func(m *api.Map) { m.Size, m.Trails[2].Past = 2, nil }),

		with(town(), func(m *api.Map) { m.Trails = m.Trails[:3] }), with(town(), func(m *api.Map) { m.Trails = nil }),
		with(town(), func(m *api.Map) { m.Trails = append(m.Trails, api.Trail{}) }), with(town(), func(m *api.Map) { m.Groups = 5 }),
		with(town(), func(m *api.Map) { m.Groups, m.Temps = 3, nil }),
		with(town(), func(m *api.Map) { m.Trails[0].Since = -1 }), with(town(), func(m *api.Map) { m.Trails[3].Since = 51 }),
		with(town(), func(m *api.Map) { m.Trails[3].Since = math.MinInt }), with(town(), func(m *api.Map) { m.Trails[3].Since = math.MaxInt }),
		with(bare(1, 1, 1), func(m *api.Map) { m.Trails[0].Since = 10 }),

		spans(3, 1, span(5, 1), span(4, 2)), spans(3, 1, span(4, 1), span(4, 2)), spans(3, 1, span(0, 1), span(2, 2), span(1, 3)),
		spans(3, 1, span(-1, 1)), spans(3, 1, span(10, 1)), spans(3, 1, span(11, 1)), spans(3, 1, span(0, 1), span(10, 2)),
		spans(3, 1, span(math.MinInt, 1)), spans(3, 1, span(math.MaxInt, 1)),
		spans(3, 1, span(0)), spans(3, 2, span(0, 1)), spans(3, 3, span(0, 1, 2)), spans(3, 2, span(0, 1, 2), span(1, 3)),
		spans(3, 1, span(0, 1, 2, 3, 4)), spans(2, 1, span(0, 1, 2, 3)), spans(1, 1, span(0, 1, 2)),
		spans(3, 1, span(0, 2, 1)), spans(3, 1, span(0, 2, 2)), spans(3, 1, span(0, 1, 3, 2)), spans(3, 1, span(0, 1, 3, 3)),
		spans(3, 1, span(0, 0)), spans(3, 1, span(0, 1000)), spans(3, 1, span(0, 0, 1)), spans(3, 1, span(0, 1, 1000)),
		spans(3, 1, span(0, -1)), spans(3, 1, span(0, math.MinInt)), spans(3, 1, span(0, math.MaxInt)),
		spans(3, 1, span(0, 7), span(1, 7)), spans(3, 1, span(0, 7, 8), span(1, 7), span(2, 7, 8)), spans(3, 3, span(0, 1, 2, 3), span(9, 1, 2, 3)),
		{Epoch: 20, Size: 1, Min: 1, Groups: 2, Trails: []api.Trail{{}, {Past: []api.Span{span(0, 5)}}}},
	}
	twice := crowd()
	past := twice.Trails[0].Past
	twice.Trails[0].Past = append(past, span(len(past), 1, 2, 4))
	return append(l, twice)
}

func TestCheck(t *testing.T) {
	for _, m := range rightMaps() {
		if e := maps.Check(m); e != api.OK {
			t.Errorf("Check(%.300s): %d", text(m), e)
		}
	}
	for _, m := range wrongMaps() {
		if e := maps.Check(m); e != api.ErrArg {
			t.Errorf("Check(%.300s): %d, not %d", text(m), e, api.ErrArg)
		}
	}
}

// warp changes one number, or one list, of a map.
func warp(c *chance, m *api.Map) {
	numbers := []*int{&m.Epoch, &m.Size, &m.Min, &m.Groups}
	lists := []*[]int{}
	for i := range m.Nodes {
		n := &m.Nodes[i]
		numbers = append(numbers, &n.Id, &n.Zone, &n.Rack, &n.Weight)
	}
	for i := range m.Temps {
		numbers = append(numbers, &m.Temps[i].Group, &m.Temps[i].Nodes[0])
		lists = append(lists, &m.Temps[i].Nodes)
	}
	for i := range m.Trails {
		numbers = append(numbers, &m.Trails[i].Since)
		for j := range m.Trails[i].Past {
			s := &m.Trails[i].Past[j]
			numbers = append(numbers, &s.From, &s.Nodes[0], &s.Nodes[len(s.Nodes)-1])
			lists = append(lists, &s.Nodes)
		}
	}
	switch at := one(c, numbers...); {
	case len(lists) > 0 && c.below(4) == 0:
		l := one(c, lists...)
		if c.below(2) == 0 {
			*l = (*l)[1:]
		} else {
			*l = append(*l, one(c, 1, 5, 9, 999))
		}
	case c.below(3) > 0:
		*at += one(c, -2, -1, 1, 2)
	default:
		*at = one(c, -1, 0, 1, 2, 3, 4, 8, 9, 10, 500, 999, 1000, topWeight, topWeight+1, top, top+1, math.MaxInt, math.MinInt, *one(c, numbers...))
	}
}

// TestCheckByWords holds drawn maps, with something changed, against the chapter's words.
func TestCheckByWords(t *testing.T) {
	c := chance(88172645463325252)
	count := map[bool]int{}
	for i := range 40 {
		l, _ := c.run(1+i%3, 1+c.below(1+i%3), 1+c.below(8), 60)
		for _, m := range l {
			if maps.Check(m) != api.OK {
				t.Fatalf("Check(%+v) of a map behind another one", m)
			}
			for range 4 {
				odd := deep(m)
				warp(&c, &odd)
				may := slowMay(odd)
				count[may]++
				if got := maps.Check(odd); (got == api.OK) != may || !may && got != api.ErrArg {
					t.Fatalf("Check(%+v): %d, but that it may be is %v", odd, got, may)
				}
			}
		}
	}
	if count[true] < 500 || count[false] < 500 {
		t.Errorf("%v: too few to tell", count)
	}
}
