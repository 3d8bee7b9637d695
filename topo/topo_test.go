package topo_test

import (
	"math"
	"slices"
	"testing"

	"windrose/api"
	"windrose/topo"
)

const topWeight = 65536

// node is one that is In, and up by its Id, for Up tells nothing of weights.
func node(id, zone, rack, weight int) api.Node {
	return api.Node{Id: id, Zone: zone, Rack: rack, Weight: weight, Up: id%2 == 0, In: true}
}

// out is a node that is not In.
func out(id, zone, rack, weight int) api.Node {
	n := node(id, zone, rack, weight)
	n.In = false
	return n
}

func nodes(l ...api.Node) []api.Node { return l }

// many are n nodes, from an Id on.
func many(n, from int) []api.Node {
	var l []api.Node
	for i := range n {
		l = append(l, node(from+i, 1+i%9, 1+i%4, i))
	}
	return l
}

// choices are of Ids and weights, told by turns.
func choices(numbers ...int) []api.Choice {
	var l []api.Choice
	for i := 0; i+1 < len(numbers); i += 2 {
		l = append(l, api.Choice{Id: numbers[i], Weight: numbers[i+1]})
	}
	return l
}

// chance is a row of numbers without a pattern, the same in each run.
type chance uint64

func (c *chance) next() uint64 {
	x := uint64(*c)
	x ^= x << 13
	x ^= x >> 7
	x ^= x << 17
	*c = chance(x)
	return x
}

func (c *chance) below(n int) int { return int(c.next() >> 33 % uint64(n)) }

// weight is one that may be, the edges among them often.
func (c *chance) weight() int {
	edges := []int{0, 1, 32768, topWeight - 1, topWeight}
	if at := c.below(3 * len(edges)); at < len(edges) {
		return edges[at]
	}
	return c.below(topWeight/(1<<c.below(8)) + 1)
}

// nodes are n that may be, in zones and racks up to some numbers.
func (c *chance) nodes(n, zones, racks int) []api.Node {
	var l []api.Node
	id := 1 + c.below(3)
	for range n {
		l = append(l, api.Node{Id: id, Zone: 1 + c.below(zones), Rack: 1 + c.below(racks), Weight: c.weight(),
			Up: c.below(2) == 0, In: c.below(4) > 0})
		id += 1 + c.below(80)
	}
	return l
}

// drawn are lists that may be, of all lengths.
func drawn(times int) [][]api.Node {
	c := chance(88172645463325252)
	var l [][]api.Node
	for range times {
		for n := range 13 {
			l = append(l, c.nodes(n, 1+c.below(9), 1+c.below(9)))
		}
	}
	return l
}

// right are lists that may be.
func right() [][]api.Node {
	l := [][]api.Node{
		nil, {},
		{node(1, 1, 1, 0)}, {node(1, 1, 1, 1)}, {node(999, 9, 9, topWeight)}, {node(1, 9, 1, topWeight)}, {node(999, 1, 9, 0)},
		{out(1, 1, 1, 1)}, {out(5, 5, 5, topWeight)}, {out(5, 5, 5, 0)},
		{node(1, 1, 1, 5), node(999, 1, 1, 6)}, {node(998, 9, 9, 5), node(999, 1, 1, 6)},
		{out(1, 1, 1, 5), node(2, 1, 1, 6)}, {out(1, 1, 1, 5), node(2, 1, 2, 6)}, {out(1, 1, 1, 5), node(2, 2, 1, 6)},
		{node(1, 1, 3, 5), node(2, 2, 3, 6)}, {node(1, 2, 3, 5), node(2, 1, 3, 6)},
		{node(1, 2, 3, 5), node(2, 1, 3, 6), node(3, 2, 3, 7), node(4, 1, 1, 8), node(5, 2, 9, 9)},
		{node(1, 3, 9, 1), node(2, 2, 8, 2), node(3, 1, 7, 4), node(4, 9, 1, 8)},
		{node(1, 1, 1, 32768), node(2, 1, 1, 32767)}, {node(1, 1, 1, 32768), node(2, 1, 1, 32768)},
		{node(1, 1, 1, 32768), node(2, 1, 1, 32769)}, {node(1, 1, 1, 32768), node(2, 1, 2, 32768), node(3, 1, 1, 32768)},
		many(1, 1), many(11, 1), many(12, 1), many(11, 989), many(12, 988),
	}
	return append(l, drawn(20)...)
}

// wrong are lists that may not be: each has one fault.
func wrong() [][]api.Node {
	l := [][]api.Node{
		many(13, 1), many(13, 987), many(14, 1), many(500, 1),
		{node(3, 1, 1, 1), node(3, 1, 1, 1)}, {node(3, 1, 1, 1), node(3, 2, 2, 2)}, {node(2, 1, 1, 1), node(1, 2, 1, 1)},
		{node(999, 1, 1, 1), node(1, 2, 1, 1)}, {node(1, 1, 1, 1), node(2, 2, 1, 1), node(2, 3, 1, 1)},
		{node(1, 1, 1, 1), node(1, 2, 1, 1), node(2, 3, 1, 1)}, {node(1, 1, 1, 1), node(3, 2, 1, 1), node(2, 3, 1, 1)},
		{node(1, 1, 1, 1), node(2, 2, 1, 1), node(1, 3, 1, 1)},
	}
	for _, id := range []int{math.MinInt, -999, -1, 0} {
		l = append(l, nodes(node(id, 1, 1, 1)), nodes(out(id, 1, 1, 1)), nodes(node(id, 1, 1, 1), node(5, 2, 1, 1)))
	}
	for _, id := range []int{1000, 1001, 1<<32 + 1, math.MaxInt} {
		l = append(l, nodes(node(id, 1, 1, 1)), nodes(out(id, 1, 1, 1)), nodes(node(5, 2, 1, 1), node(id, 1, 1, 1)))
	}
	for _, x := range []int{math.MinInt, -9, -1, 0, 10, 11, 1<<32 + 1, math.MaxInt} {
		for at := range 3 {
			zone, rack := many(3, 1), many(3, 1)
			zone[at].Zone, rack[at].Rack = x, x
			l = append(l, zone, rack)
		}
		l = append(l, nodes(node(1, x, 1, 1)), nodes(node(1, 1, x, 1)), nodes(out(1, x, 1, 1)), nodes(out(1, 1, x, 1)))
	}
	for _, w := range []int{math.MinInt, -topWeight, -1, topWeight + 1, topWeight + 2, 1 << 32, math.MaxInt} {
		for at := range 3 {
			weight := many(3, 1)
			weight[at].Weight = w
			l = append(l, weight)
		}
		l = append(l, nodes(node(1, 1, 1, w)), nodes(out(1, 1, 1, w)))
	}
	last := many(12, 1)
	last[11].Id = 11
	return append(l, last)
}

// numbers are those that one asks for: zones, racks, ids, and such as are none.
func numbers() []int {
	l := []int{math.MinInt, math.MinInt + 1, -1 << 32, -9, -1, 10, 11, 998, 999, 1000, 1<<32 + 1, math.MaxInt - 1, math.MaxInt}
	for i := range 10 {
		l = append(l, i)
	}
	return l
}

// together is what those nodes weigh that are meant, and whether there are any, by the chapter's words.
func together(l []api.Node, meant func(api.Node) bool) (int, bool) {
	sum, any := 0, false
	for _, n := range l {
		if meant(n) {
			any = true
			if n.In {
				sum += n.Weight
			}
		}
	}
	if sum > topWeight {
		sum = topWeight
	}
	return sum, any
}

func slowZones(l []api.Node) []api.Choice {
	var told []api.Choice
	for z := 1; z <= 9; z++ {
		if w, any := together(l, func(n api.Node) bool { return n.Zone == z }); any {
			told = append(told, api.Choice{Id: z, Weight: w})
		}
	}
	return told
}

// slowRacks tells racks of one number of all zones as two, the one of the less zone first.
func slowRacks(l []api.Node, zone int) []api.Choice {
	var told []api.Choice
	for r := 1; r <= 9; r++ {
		for z := 1; z <= 9; z++ {
			if zone != 0 && zone != z {
				continue
			}
			if w, any := together(l, func(n api.Node) bool { return n.Zone == z && n.Rack == r }); any {
				told = append(told, api.Choice{Id: r, Weight: w})
			}
		}
	}
	return told
}

func slowLeaves(l []api.Node, zone, rack int) []api.Choice {
	var told []api.Choice
	for id := 1; id <= 999; id++ {
		w, any := together(l, func(n api.Node) bool {
			return n.Id == id && (zone == 0 || zone == n.Zone) && (rack == 0 || rack == n.Rack)
		})
		if any {
			told = append(told, api.Choice{Id: id, Weight: w})
		}
	}
	return told
}

func slowApart(l []api.Node, ids []int) bool {
	for i, a := range ids {
		at := slices.IndexFunc(l, func(n api.Node) bool { return n.Id == a })
		if at < 0 {
			return false
		}
		for _, b := range ids[:i] {
			if a == b || slices.ContainsFunc(l, func(n api.Node) bool { return n.Id == b && n.Zone == l[at].Zone }) {
				return false
			}
		}
	}
	return true
}

func TestCheck(t *testing.T) {
	for _, l := range right() {
		if e := topo.Check(l); e != api.OK {
			t.Errorf("Check(%v): %d", l, e)
		}
	}
	for _, l := range wrong() {
		if e := topo.Check(l); e != api.ErrArg {
			t.Errorf("Check(%v): %d, not %d", l, e, api.ErrArg)
		}
	}
}

func TestCheckEachEdge(t *testing.T) {
	for _, c := range []struct {
		n  api.Node
		ok bool
	}{
		{node(0, 1, 1, 1), false}, {node(1, 1, 1, 1), true}, {node(999, 1, 1, 1), true}, {node(1000, 1, 1, 1), false},
		{node(1, 0, 1, 1), false}, {node(1, 9, 1, 1), true}, {node(1, 10, 1, 1), false},
		{node(1, 1, 0, 1), false}, {node(1, 1, 9, 1), true}, {node(1, 1, 10, 1), false},
		{node(1, 1, 1, -1), false}, {node(1, 1, 1, 0), true}, {node(1, 1, 1, 65536), true}, {node(1, 1, 1, 65537), false},
	} {
		for _, in := range []bool{false, true} {
			c.n.In = in
			if e := topo.Check(nodes(c.n)); (e == api.OK) != c.ok || (e == api.ErrArg) == c.ok {
				t.Errorf("Check of %v: %d", c.n, e)
			}
		}
	}
}

func TestFind(t *testing.T) {
	for _, l := range right() {
		for _, n := range l {
			if got, ok := topo.Find(l, n.Id); got != n || !ok {
				t.Errorf("Find(%v, %d): %v, %v", l, n.Id, got, ok)
			}
		}
		for _, id := range numbers() {
			if slices.ContainsFunc(l, func(n api.Node) bool { return n.Id == id }) {
				continue
			}
			if got, ok := topo.Find(l, id); got != (api.Node{}) || ok {
				t.Errorf("Find(%v, %d), who is none: %v, %v", l, id, got, ok)
			}
		}
	}
}

func TestExample(t *testing.T) {
	for _, l := range [][]api.Node{
		{node(1, 3, 1, 40000), node(2, 3, 2, 40000)}, {node(1, 3, 1, 40000), node(2, 3, 1, 40000)},
	} {
		if got := topo.Zones(l); !slices.Equal(got, choices(3, 65536)) {
			t.Errorf("Zones(%v): %v", l, got)
		}
	}
}

func TestZonesKnown(t *testing.T) {
	for _, c := range []struct {
		l    []api.Node
		want []api.Choice
	}{
		{nil, nil},
		{[]api.Node{}, nil},
		{nodes(node(7, 4, 2, 9)), choices(4, 9)},
		{nodes(out(7, 4, 2, 9)), choices(4, 0)},
		{nodes(node(7, 4, 2, 0)), choices(4, 0)},
		{nodes(out(1, 4, 2, 9), node(2, 4, 2, 5), node(3, 4, 3, 6)), choices(4, 11)},
		{nodes(node(1, 9, 1, 1), node(2, 1, 1, 2), node(3, 5, 1, 4), node(4, 1, 2, 8), out(5, 2, 1, 16)),
			choices(1, 10, 2, 0, 5, 4, 9, 1)},
		{nodes(node(1, 1, 1, 32768), node(2, 1, 2, 32767)), choices(1, 65535)},
		{nodes(node(1, 1, 1, 32768), node(2, 1, 2, 32768)), choices(1, 65536)},
		{nodes(node(1, 1, 1, 32768), node(2, 1, 2, 32769)), choices(1, 65536)},
		{nodes(node(1, 1, 1, 65536), node(2, 1, 2, 65536), node(3, 2, 1, 65535), out(4, 2, 1, 65536)),
			choices(1, 65536, 2, 65535)},
	} {
		if got := topo.Zones(c.l); !slices.Equal(got, c.want) {
			t.Errorf("Zones(%v): %v, not %v", c.l, got, c.want)
		}
	}
}

// town has racks of one number in two zones, nodes that are out beside others and alone, and racks and zones at the edge of weights.
func town() []api.Node {
	return nodes(
		node(2, 3, 2, 10), node(3, 1, 2, 20), out(5, 1, 2, 40), node(8, 1, 1, 80),
		out(13, 1, 9, 160), out(21, 7, 4, 320), node(34, 3, 5, 65530), node(55, 3, 2, 6),
		node(89, 8, 1, 65535), node(144, 8, 1, 1), node(233, 8, 6, 65536), node(999, 9, 9, 0))
}

func TestRacksKnown(t *testing.T) {
	for _, c := range []struct {
		zone int
		want []api.Choice
	}{
		{1, choices(1, 80, 2, 20, 9, 0)},
		{3, choices(2, 16, 5, 65530)},
		{7, choices(4, 0)},
		{8, choices(1, 65536, 6, 65536)},
		{9, choices(9, 0)},
		{0, choices(1, 80, 1, 65536, 2, 20, 2, 16, 4, 0, 5, 65530, 6, 65536, 9, 0, 9, 0)},
		{2, nil}, {10, nil}, {-1, nil}, {-3, nil}, {1<<32 + 1, nil}, {math.MinInt, nil}, {math.MaxInt, nil},
	} {
		if got := topo.Racks(town(), c.zone); !slices.Equal(got, c.want) {
			t.Errorf("Racks of zone %d: %v, not %v", c.zone, got, c.want)
		}
	}
}

func TestLeavesKnown(t *testing.T) {
	for _, c := range []struct {
		zone, rack int
		want       []api.Choice
	}{
		{1, 2, choices(3, 20, 5, 0)}, {1, 1, choices(8, 80)}, {1, 9, choices(13, 0)},
		{3, 2, choices(2, 10, 55, 6)}, {7, 4, choices(21, 0)}, {8, 1, choices(89, 65535, 144, 1)}, {9, 9, choices(999, 0)},
		{1, 0, choices(3, 20, 5, 0, 8, 80, 13, 0)}, {3, 0, choices(2, 10, 34, 65530, 55, 6)}, {7, 0, choices(21, 0)},
		{8, 0, choices(89, 65535, 144, 1, 233, 65536)}, {2, 0, nil}, {-1, 0, nil}, {10, 0, nil},
		{0, 2, choices(2, 10, 3, 20, 5, 0, 55, 6)}, {0, 1, choices(8, 80, 89, 65535, 144, 1)}, {0, 9, choices(13, 0, 999, 0)},
		{0, 3, nil}, {0, -1, nil}, {0, 10, nil},
		{0, 0, choices(2, 10, 3, 20, 5, 0, 8, 80, 13, 0, 21, 0, 34, 65530, 55, 6, 89, 65535, 144, 1, 233, 65536, 999, 0)},
		{1, 4, nil}, {7, 2, nil}, {2, 2, nil}, {1, -2, nil}, {-1, 2, nil}, {1, 10, nil}, {10, 1, nil}, {-1, -1, nil},
		{math.MinInt, 1, nil}, {1, math.MinInt, nil}, {math.MaxInt, 1, nil}, {1, math.MaxInt, nil},
		{1<<32 + 1, 2, nil}, {1, 1<<32 + 2, nil},
	} {
		if got := topo.Leaves(town(), c.zone, c.rack); !slices.Equal(got, c.want) {
			t.Errorf("Leaves of zone %d, rack %d: %v, not %v", c.zone, c.rack, got, c.want)
		}
	}
}

func TestWeightsAsSaid(t *testing.T) {
	for _, l := range append(right(), town()) {
		if got, want := topo.Zones(l), slowZones(l); !slices.Equal(got, want) {
			t.Errorf("Zones(%v): %v, not %v", l, got, want)
		}
		for _, zone := range numbers() {
			if got, want := topo.Racks(l, zone), slowRacks(l, zone); !slices.Equal(got, want) {
				t.Errorf("Racks(%v, %d): %v, not %v", l, zone, got, want)
			}
		}
		for zone := -1; zone <= 10; zone++ {
			for rack := -1; rack <= 10; rack++ {
				if got, want := topo.Leaves(l, zone, rack), slowLeaves(l, zone, rack); !slices.Equal(got, want) {
					t.Errorf("Leaves(%v, %d, %d): %v, not %v", l, zone, rack, got, want)
				}
			}
		}
	}
}

func TestUpTellsNothingOfWeights(t *testing.T) {
	for _, l := range append(right(), town()) {
		turned := slices.Clone(l)
		for i := range turned {
			turned[i].Up = !turned[i].Up
		}
		if !slices.Equal(topo.Zones(l), topo.Zones(turned)) || !slices.Equal(topo.Racks(l, 1), topo.Racks(turned, 1)) ||
			!slices.Equal(topo.Leaves(l, 0, 0), topo.Leaves(turned, 0, 0)) {
			t.Errorf("%v: weights hang on who is up", l)
		}
	}
}

func TestApartKnown(t *testing.T) {
	l := nodes(node(1, 1, 1, 5), node(2, 1, 2, 5), node(3, 2, 1, 5), out(4, 3, 1, 5), out(5, 3, 9, 0), node(999, 9, 9, 0))
	for _, c := range []struct {
		ids  []int
		want bool
	}{
		{nil, true}, {[]int{}, true},
		{[]int{1}, true}, {[]int{4}, true}, {[]int{999}, true},
		{[]int{1, 3}, true}, {[]int{3, 1}, true}, {[]int{2, 3, 4, 999}, true}, {[]int{999, 5, 3, 1}, true},
		{[]int{1, 1}, false}, {[]int{999, 999}, false}, {[]int{1, 3, 1}, false},
		{[]int{1, 2}, false}, {[]int{2, 1}, false}, {[]int{4, 5}, false}, {[]int{3, 1, 999, 2}, false},
		{[]int{6}, false}, {[]int{0}, false}, {[]int{-1}, false}, {[]int{1000}, false}, {[]int{1<<32 + 1}, false},
		{[]int{math.MinInt}, false}, {[]int{math.MaxInt}, false},
		{[]int{1, 6}, false}, {[]int{6, 1}, false}, {[]int{0, 0}, false}, {[]int{1, 3, 4, 0}, false},
	} {
		if got := topo.Apart(l, c.ids); got != c.want {
			t.Errorf("Apart of %v: %v", c.ids, got)
		}
	}
	for _, none := range [][]api.Node{nil, {}} {
		if !topo.Apart(none, nil) || !topo.Apart(none, []int{}) || topo.Apart(none, []int{1}) || topo.Apart(none, []int{0}) {
			t.Error("Apart of no nodes")
		}
	}
	if topo.Apart(l, make([]int, 100000)) || topo.Apart(l, slices.Repeat([]int{1, 3}, 50000)) {
		t.Error("Apart of many ids")
	}
}

func TestApartAsSaid(t *testing.T) {
	c := chance(2463534242)
	yes := 0
	for _, l := range drawn(40) {
		for range 10 {
			var ids []int
			for range c.below(5) {
				if len(l) > 0 && c.below(12) > 0 {
					ids = append(ids, l[c.below(len(l))].Id)
				} else {
					ids = append(ids, c.below(1000))
				}
			}
			want := slowApart(l, ids)
			if got := topo.Apart(l, ids); got != want {
				t.Errorf("Apart(%v, %v): %v", l, ids, got)
			}
			if want && len(ids) > 1 {
				yes++
			}
		}
	}
	if yes < 100 {
		t.Errorf("%d of the drawn ids were apart: too few to tell", yes)
	}
}

func TestSame(t *testing.T) {
	turns := []func(n *api.Node){
		func(n *api.Node) { n.Id++ }, func(n *api.Node) { n.Zone = n.Zone%9 + 1 }, func(n *api.Node) { n.Rack = n.Rack%9 + 1 },
		func(n *api.Node) { n.Weight = (n.Weight + 1) % topWeight }, func(n *api.Node) { n.Up = !n.Up },
		func(n *api.Node) { n.In = !n.In },
	}
	for _, l := range append(right(), town()) {
		if !topo.Same(l, l) || !topo.Same(l, slices.Clone(l)) {
			t.Errorf("Same of %v and itself", l)
		}
		for i := range l {
			less := slices.Delete(slices.Clone(l), i, i+1)
			if topo.Same(l, less) || topo.Same(less, l) {
				t.Errorf("Same of %v and it without the node %d", l, l[i].Id)
			}
			for at, turn := range turns {
				other := slices.Clone(l)
				turn(&other[i])
				if topo.Same(l, other) || topo.Same(other, l) {
					t.Errorf("Same of %v and %v (field %d)", l, other, at)
				}
			}
		}
	}
	if !topo.Same(nil, []api.Node{}) || !topo.Same([]api.Node{}, nil) || !topo.Same(nil, nil) {
		t.Error("Same of no nodes")
	}
}

func TestNodesThatMayNotBe(t *testing.T) {
	for _, l := range wrong() {
		for _, n := range l[:min(len(l), 14)] {
			if got, ok := topo.Find(l, n.Id); got != (api.Node{}) || ok {
				t.Errorf("Find(%v, %d): %v, %v", l, n.Id, got, ok)
			}
			if topo.Apart(l, []int{n.Id}) {
				t.Errorf("Apart(%v) of %d", l, n.Id)
			}
			if got := topo.Leaves(l, n.Zone, n.Rack); len(got) > 0 {
				t.Errorf("Leaves(%v, %d, %d): %v", l, n.Zone, n.Rack, got)
			}
			if got := topo.Racks(l, n.Zone); len(got) > 0 {
				t.Errorf("Racks(%v, %d): %v", l, n.Zone, got)
			}
		}
		if len(topo.Zones(l)) > 0 || len(topo.Racks(l, 0)) > 0 || len(topo.Leaves(l, 0, 0)) > 0 {
			t.Errorf("%v: told, though they may not be", l)
		}
		if topo.Apart(l, nil) || topo.Apart(l, []int{}) {
			t.Errorf("Apart(%v) of none", l)
		}
		if topo.Same(l, l) || topo.Same(l, slices.Clone(l)) || topo.Same(l, nil) || topo.Same(nil, l) {
			t.Errorf("Same of %v", l)
		}
	}
}

// TestRacksWeighWhatTheirZoneDoes is Tp3, and that nodes weigh what their rack does.
func TestRacksWeighWhatTheirZoneDoes(t *testing.T) {
	sum := func(l []api.Choice) int {
		all := 0
		for _, c := range l {
			all += c.Weight
		}
		return all
	}
	light, heavy := 0, 0
	for _, l := range append(drawn(200), town()) {
		for _, z := range topo.Zones(l) {
			racks := topo.Racks(l, z.Id)
			if len(racks) == 0 {
				t.Errorf("%v: zone %d has no racks", l, z.Id)
			}
			if z.Weight == topWeight {
				heavy++
				if sum(racks) < topWeight {
					t.Errorf("%v: racks of zone %d weigh %d", l, z.Id, sum(racks))
				}
				continue
			}
			light++
			if sum(racks) != z.Weight {
				t.Errorf("%v: zone %d weighs %d, its racks %d", l, z.Id, z.Weight, sum(racks))
			}
			for _, r := range racks {
				if leaves := topo.Leaves(l, z.Id, r.Id); sum(leaves) != r.Weight {
					t.Errorf("%v: rack %d of zone %d weighs %d, its nodes %d", l, r.Id, z.Id, r.Weight, sum(leaves))
				}
			}
		}
	}
	if light < 100 || heavy < 100 {
		t.Errorf("%d light zones, %d heavy ones: too few to tell", light, heavy)
	}
}

// roomy is the nodes with room behind their end in which something lies.
func roomy(l []api.Node) []api.Node {
	room := append(slices.Clone(l), node(77, 7, 7, 77), node(78, 7, 8, 78))
	return room[:len(l)]
}

func TestNothingHandedInIsChanged(t *testing.T) {
	for _, l := range slices.Concat(right(), wrong(), [][]api.Node{town()}) {
		given := roomy(l)
		ids := append(make([]int, 0, 8), 3, 1, 2, 3)[:3]
		before := slices.Clone(given[:cap(given)])
		topo.Check(given)
		topo.Find(given, 1)
		topo.Zones(given)
		topo.Racks(given, 0)
		topo.Racks(given, 1)
		topo.Leaves(given, 0, 0)
		topo.Leaves(given, 1, 2)
		topo.Apart(given, ids)
		topo.Same(given, given)
		topo.Same(given, l)
		if !slices.Equal(given[:cap(given)], before) || !slices.Equal(ids[:4], []int{3, 1, 2, 3}) {
			t.Errorf("%v: changed to %v, %v", before, given[:cap(given)], ids[:4])
		}
	}
}

func TestAnswersAreNewMemory(t *testing.T) {
	calls := []func(l []api.Node) []api.Choice{
		topo.Zones,
		func(l []api.Node) []api.Choice { return topo.Racks(l, 8) },
		func(l []api.Node) []api.Choice { return topo.Leaves(l, 0, 0) },
	}
	for i, call := range calls {
		l := town()
		first := call(l)
		want := slices.Clone(first)
		room := first[:cap(first)]
		for at := range room {
			room[at] = api.Choice{Id: -1, Weight: -1}
		}
		if !slices.Equal(call(l), want) || !slices.Equal(l, town()) {
			t.Errorf("call %d: what was answered is kept", i)
		}
	}
}
