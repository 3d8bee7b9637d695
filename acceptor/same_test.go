package acceptor_test

import (
	"math"
	"slices"
	"testing"

	"windrose/acceptor"
	"windrose/api"
)

// unlikeDeltas are deltas no two of which are alike, many of them unlike in one field alone, or in one list, or in how long it is.
func unlikeDeltas() []api.Delta {
	base := api.Delta{Kind: 4, Node: 5, Zone: 6, Rack: 7, Weight: 8, Group: 9, Nodes: []int{1, 2, 3}}
	l := []api.Delta{{}, base}
	for _, f := range append(fields(), field{"Kind", func(d *api.Delta) *int { return &d.Kind }}) {
		for _, n := range []int{1, -1, 1 << 32, math.MaxInt, math.MinInt} {
			alone, beside := api.Delta{}, base
			*f.at(&alone) = n
			*f.at(&beside) += n
			l = append(l, alone, beside)
		}
	}
	for _, nodes := range [][]int{{0}, {0, 0}, {0, 0, 0}, {1}, {1, 2}, {1, 2, 4}, {2, 2, 3}, {1, 3, 2}, {1, 2, 3, 0}, {1, 2, 3, 3}, {2, 3}, {-1}, {math.MinInt}} {
		beside := base
		beside.Nodes = nodes
		l = append(l, api.Delta{Nodes: nodes}, beside)
	}
	none := base
	none.Nodes = nil
	return append(l, none)
}

func TestSameDelta(t *testing.T) {
	l := unlikeDeltas()
	for i, a := range l {
		for j, b := range l {
			b.Nodes = slices.Clone(b.Nodes)
			if got := acceptor.SameDelta(a, b); got != (i == j) {
				t.Errorf("SameDelta(%+v, %+v): %v", a, b, got)
			}
		}
	}
	for _, d := range slices.Concat(rights(), wrongs()) {
		if !acceptor.SameDelta(d, deepDelta(d)) {
			t.Errorf("SameDelta(%+v) of itself: false", d)
		}
	}
	empty, none := api.Delta{Kind: 8, Nodes: []int{}}, api.Delta{Kind: 8}
	if !acceptor.SameDelta(empty, none) || !acceptor.SameDelta(none, empty) || !acceptor.SameDelta(empty, empty) {
		t.Error("SameDelta of the empty list and none: false")
	}
}

// unlikeOnes are acceptors no two of which are alike.
func unlikeOnes() []api.Acceptor {
	l := []api.Acceptor{{}, of(1), of(-1), of(math.MaxInt), of(math.MinInt)}
	idle := api.Accepted{}
	for _, slots := range [][]api.Accepted{{idle}, {idle, idle}, {acc(1, api.Delta{})}, {idle, acc(1, api.Delta{})}, {acc(1, api.Delta{}), idle},
		{acc(-1, api.Delta{})}, {acc(2, up(3)), acc(3, up(4))}, {acc(3, up(4)), acc(2, up(3))}, {acc(3, up(3)), acc(2, up(4))}, row(mostSlots, 2), row(257, 2)} {
		l = append(l, of(0, slots...), of(9, slots...))
	}
	for _, d := range unlikeDeltas()[1:] {
		l = append(l, of(9, acc(2, up(3)), acc(2, d)), of(9, acc(2, d), acc(2, up(3))))
	}
	for i := range town().Slots {
		ballot, delta := town(), town()
		ballot.Slots[i].Ballot++
		delta.Slots[i].Delta.Rack++
		l = append(l, ballot, delta, of(9, town().Slots[:i+1]...))
	}
	return l
}

func TestSame(t *testing.T) {
	l := unlikeOnes()
	for i, a := range l {
		for j, b := range l {
			if got := acceptor.Same(a, b); got != (i == j) {
				t.Errorf("Same(%s, %s): %v", short(a), short(b), got)
			}
		}
	}
	for _, a := range slices.Concat(rightOnes(), wrongOnes(), l) {
		if !acceptor.Same(a, deep(a)) {
			t.Errorf("Same(%s) of itself: false", short(a))
		}
	}
	empty := api.Acceptor{Promised: 3, Slots: []api.Accepted{}}
	if !acceptor.Same(empty, of(3)) || !acceptor.Same(of(3), empty) {
		t.Error("Same of the empty list and none: false")
	}
	empty, none := of(3, acc(2, api.Delta{Kind: 9, Nodes: []int{}})), of(3, acc(2, api.Delta{Kind: 9}))
	if !acceptor.Same(empty, none) || !acceptor.Same(none, empty) {
		t.Error("Same of a slot's empty list and none: false")
	}
}
