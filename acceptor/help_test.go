package acceptor_test

import (
	"fmt"
	"math"
	"slices"
	"testing"

	"windrose/acceptor"
	"windrose/api"
)

const (
	top       = 1<<31 - 1
	mostSlots = 256
)

// text is anything as a text: values are alike if their texts are, for nil and the empty list are printed alike.
func text(x any) string { return fmt.Sprintf("%+v", x) }

// short is a text that may be long, for a remark of a test.
func short(x any) string { return fmt.Sprintf("%.300s", text(x)) }

// edges are numbers that are no count: next to the least and to the greatest one, like one of them in their lowest bits, and at the edges of an int.
func edges() []int {
	return []int{-1, -2, -top, top + 1, top + 2, 1 << 32, 1<<32 + 1, 1<<32 + 5, 1 << 62, math.MaxInt, math.MaxInt - 1, math.MinInt, math.MinInt + 1, math.MinInt + 5}
}

// field is a number of a delta.
type field struct {
	name string
	at   func(*api.Delta) *int
}

func fields() []field {
	return []field{
		{"Node", func(d *api.Delta) *int { return &d.Node }},
		{"Zone", func(d *api.Delta) *int { return &d.Zone }},
		{"Rack", func(d *api.Delta) *int { return &d.Rack }},
		{"Weight", func(d *api.Delta) *int { return &d.Weight }},
		{"Group", func(d *api.Delta) *int { return &d.Group }},
	}
}

// asks is what a kind asks, by layer 8's table.
func asks(kind int) []string {
	return map[int][]string{
		1: {"Node", "Zone", "Rack", "Weight"}, // DeltaAdd
		2: {"Node", "Weight"},                 // DeltaWeight
		3: {"Node"}, 4: {"Node"}, 5: {"Node"}, 6: {"Node"}, 7: {"Node"},
		8:  {"Group", "Nodes"}, // DeltaTemp
		10: {"Group", "Weight"},
	}[kind]
}

func up(node int) api.Delta { return api.Delta{Kind: api.DeltaUp, Node: node} }

func pin(group int, nodes ...int) api.Delta {
	return api.Delta{Kind: api.DeltaTemp, Group: group, Nodes: nodes}
}

// rights are deltas that may be told, two or more of each kind.
func rights() []api.Delta {
	return []api.Delta{
		{Kind: api.DeltaAdd}, {Kind: api.DeltaAdd, Node: 5, Zone: 1, Rack: 2, Weight: 300}, {Kind: api.DeltaAdd, Node: top, Zone: top, Rack: top, Weight: top},
		{Kind: api.DeltaWeight}, {Kind: api.DeltaWeight, Node: 5, Weight: 65536}, {Kind: api.DeltaWeight, Node: top, Weight: top},
		up(0), up(5), up(top), {Kind: api.DeltaDown}, {Kind: api.DeltaDown, Node: 5}, {Kind: api.DeltaOut}, {Kind: api.DeltaOut, Node: 5},
		{Kind: api.DeltaIn}, {Kind: api.DeltaIn, Node: 5}, {Kind: api.DeltaRemove}, {Kind: api.DeltaRemove, Node: 5},
		pin(0), pin(7), pin(0, 0), pin(1, 9, 3), pin(7, 5, 5, 5), pin(top, top, 0, top),
		{Kind: api.DeltaNone}, {Kind: api.DeltaNone, Nodes: []int{}}, {Kind: api.DeltaClean}, {Kind: api.DeltaClean, Group: 3, Weight: 40},
		{Kind: api.DeltaClean, Group: top, Weight: top},
	}
}

// wrongs are deltas that may not be told.
func wrongs() []api.Delta {
	return []api.Delta{
		{}, {Kind: 11}, {Kind: -1}, {Kind: 1<<32 + 3, Node: 5}, {Node: 5}, up(-1), up(top + 1),
		{Kind: api.DeltaUp, Node: 5, Zone: 1}, {Kind: api.DeltaUp, Node: 5, Nodes: []int{0}}, {Kind: api.DeltaNone, Weight: 1}, {Kind: api.DeltaNone, Nodes: []int{0}},
		{Kind: api.DeltaTemp, Node: 1}, pin(-1), pin(0, -1), pin(0, 1, 2, top+1), pin(0, 1, 2, 3, 4), {Kind: api.DeltaClean, Group: 1, Weight: -1},
	}
}

// acc is what was accepted.
func acc(ballot int, d api.Delta) api.Accepted { return api.Accepted{Ballot: ballot, Delta: d} }

// of is an acceptor.
func of(promised int, l ...api.Accepted) api.Acceptor {
	return api.Acceptor{Promised: promised, Slots: l}
}

// row are so many slots, all of that ballot; no two of their deltas are alike.
func row(many, ballot int) []api.Accepted {
	var l []api.Accepted
	for i := range many {
		l = append(l, acc(ballot, pin(i, i+1, 7)))
	}
	return l
}

// town is an acceptor of slots of all kinds; its second and its fifth one are of Ballot 0.
func town() api.Acceptor {
	return of(9, acc(4, up(3)), acc(0, api.Delta{}), acc(9, pin(2, 8, 3, 11)), acc(1, api.Delta{Kind: api.DeltaNone}), acc(0, api.Delta{}), acc(4, pin(1, 20)))
}

// rightOnes are acceptors that may be.
func rightOnes() []api.Acceptor {
	return []api.Acceptor{
		{}, of(1), of(7), of(top), {Slots: []api.Accepted{}}, town(), of(top, town().Slots...), of(1, acc(1, up(0))),
		of(7, acc(7, pin(0))), of(7, api.Accepted{}, acc(1, up(4))), of(top, row(255, 5)...), of(top, row(mostSlots, top)...),
		of(6, append(make([]api.Accepted, 255), acc(6, pin(3, 1, 2, 3)))...),
	}
}

// wrongOnes are acceptors that may not be.
func wrongOnes() []api.Acceptor {
	l := []api.Acceptor{
		of(-1), of(top + 1), of(math.MinInt), of(math.MaxInt), of(9, row(257, 3)...), of(9, row(1000, 3)...), of(0, acc(1, up(3))), of(7, acc(8, up(3))),
		of(7, acc(-1, up(3))), of(7, acc(-1, api.Delta{}), acc(1, up(3))), of(7, acc(0, api.Delta{})), of(7, acc(3, up(3)), acc(0, api.Delta{})),
		of(7, acc(0, up(3)), acc(1, up(3))), of(-1, acc(1, up(3))), of(7, make([]api.Accepted, 257)...), of(7, make([]api.Accepted, mostSlots)...),
	}
	for _, d := range wrongs() {
		l = append(l, of(7, acc(3, up(3)), acc(5, d), acc(7, up(4))))
	}
	return l
}

// wantPrepare asks for what a Prepare answers, whether it is done or refused.
func wantPrepare(t *testing.T, a api.Acceptor, ballot, from int, must api.Acceptor, told []api.Accepted, e api.Errno) {
	t.Helper()
	got, l, f := acceptor.Prepare(a, ballot, from)
	if text(got) != text(must) || text(l) != text(told) || f != e {
		t.Errorf("Prepare(%s, %d, %d): error %d, want %d; %s, want %s; told %s, want %s", short(a), ballot, from, f, e, short(got), short(must), short(l), short(told))
	}
}

func wantAccept(t *testing.T, a api.Acceptor, ballot, slot int, d api.Delta, must api.Acceptor, e api.Errno) {
	t.Helper()
	got, f := acceptor.Accept(a, ballot, slot, d)
	if text(got) != text(must) || f != e {
		t.Errorf("Accept(%s, %d, %d, %+v): error %d, want %d; %s, want %s", short(a), ballot, slot, d, f, e, short(got), short(must))
	}
}

// chance is a row of numbers without a pattern, the same in each run.
type chance uint64

func (c *chance) next() uint64 {
	x := uint64(*c)
	x ^= x << 13
	x ^= x >> 7
	x ^= x << 17
	*c = chance(x)
	return x
}

func (c *chance) below(n int) int { return int(c.next() >> 33 % uint64(n)) }

// one is one of a list.
func one[T any](c *chance, l ...T) T { return l[c.below(len(l))] }

// count is a number, that may be told as a rule.
func (c *chance) count() int {
	if c.below(40) == 0 {
		return one(c, edges()...)
	}
	return one(c, 0, 1, 2, 3, 5, 255, 256, 999, top-1, top, c.below(12))
}

// delta is one that may be told as a rule.
func (c *chance) delta() api.Delta {
	d := api.Delta{Kind: 1 + c.below(10)}
	for _, f := range fields() {
		if slices.Contains(asks(d.Kind), f.name) {
			*f.at(&d) = c.count()
		}
	}
	if d.Kind == api.DeltaTemp {
		for range c.below(4) {
			d.Nodes = append(d.Nodes, c.count())
		}
	}
	if c.below(40) == 0 {
		*one(c, &d.Kind, &d.Node, &d.Zone, &d.Rack, &d.Weight, &d.Group) = c.count()
	}
	if c.below(60) == 0 {
		d.Nodes = append(d.Nodes, c.count())
	}
	return d
}

// told is a delta that may be told.
func (c *chance) told() api.Delta {
	for {
		if d := c.delta(); slowTold(d) {
			return d
		}
	}
}

// acceptor is one that may be as a rule.
func (c *chance) acceptor() api.Acceptor {
	a := api.Acceptor{Promised: one(c, 0, 1, 5, 12, top)}
	for range c.below(8) {
		x := api.Accepted{}
		if a.Promised > 0 && c.below(3) > 0 {
			x = acc(1+c.below(min(a.Promised, 12)), c.told())
		}
		a.Slots = append(a.Slots, x)
	}
	for len(a.Slots) > 0 && a.Slots[len(a.Slots)-1].Ballot == 0 && c.below(20) > 0 {
		a.Slots = a.Slots[:len(a.Slots)-1]
	}
	if len(a.Slots) > 0 && c.below(12) == 0 {
		a.Slots[c.below(len(a.Slots))] = acc(one(c, -1, 0, 1, a.Promised, a.Promised+1), c.delta())
	}
	return a
}
