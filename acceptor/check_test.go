package acceptor_test

import (
	"math"
	"slices"
	"testing"

	"windrose/acceptor"
	"windrose/api"
)

func wantDelta(t *testing.T, d api.Delta, may bool) {
	t.Helper()
	must := api.ErrArg
	if may {
		must = api.OK
	}
	if e := acceptor.CheckDelta(d); e != must {
		t.Errorf("CheckDelta(%s): error %d, want %d", short(d), e, must)
	}
}

func TestCheckDeltaOfKinds(t *testing.T) {
	for kind := 1; kind <= 10; kind++ {
		wantDelta(t, api.Delta{Kind: kind}, true)
		wantDelta(t, api.Delta{Kind: kind, Nodes: []int{}}, true)
		wantDelta(t, api.Delta{Kind: kind, Nodes: []int{1, 2, 3, 4}[:0]}, true)
	}
	for _, kind := range append(edges(), 0, 11, 12, 100, 256, 257, 1<<8+3, 1<<16+3, 1<<32+10, math.MinInt+1, top) {
		wantDelta(t, api.Delta{Kind: kind}, false)
		for _, f := range fields() {
			d := api.Delta{Kind: kind}
			*f.at(&d) = 5
			wantDelta(t, d, false)
		}
		wantDelta(t, api.Delta{Kind: kind, Nodes: []int{5}}, false)
	}
	for _, d := range rights() {
		wantDelta(t, d, true)
	}
	for _, d := range wrongs() {
		wantDelta(t, d, false)
	}
}

// TestCheckDeltaOfNumbers gives each kind each number, alone and beside all others that it asks, one at a time.
func TestCheckDeltaOfNumbers(t *testing.T) {
	spare := 0
	for kind := 1; kind <= 10; kind++ {
		full := api.Delta{Kind: kind}
		for _, f := range fields() {
			if slices.Contains(asks(kind), f.name) {
				*f.at(&full) = top
			}
		}
		for _, f := range fields() {
			does := slices.Contains(asks(kind), f.name)
			if !does {
				spare++
			}
			for _, base := range []api.Delta{{Kind: kind}, full} {
				for _, n := range []int{0, 1, 2, 5, 256, 65536, 65537, top - 1, top} {
					d := base
					*f.at(&d) = n
					wantDelta(t, d, does || n == 0)
				}
				for _, n := range edges() {
					d := base
					*f.at(&d) = n
					wantDelta(t, d, false)
				}
			}
		}
	}
	if spare != 1+3+5*4+4+5+3 {
		t.Errorf("%d numbers were not asked", spare)
	}
}

func TestCheckDeltaOfNodes(t *testing.T) {
	for kind := 1; kind <= 10; kind++ {
		temp := kind == api.DeltaTemp
		for many := range 6 {
			for _, n := range []int{0, 1, 7, 999, 1000, top} {
				wantDelta(t, api.Delta{Kind: kind, Nodes: slices.Repeat([]int{n}, many)}, many == 0 || temp && many <= 3)
			}
			for place := range many {
				for _, n := range []int{0, 1, top - 1, top} {
					l := []int{9, 4, 6, 2, 8}[:many]
					l[place] = n
					wantDelta(t, api.Delta{Kind: kind, Nodes: l}, temp && many <= 3)
				}
				for _, n := range edges() {
					l := []int{9, 4, 6, 2, 8}[:many]
					l[place] = n
					wantDelta(t, api.Delta{Kind: kind, Nodes: l}, false)
				}
			}
		}
		wantDelta(t, api.Delta{Kind: kind, Nodes: make([]int, 1000)}, false)
		wantDelta(t, api.Delta{Kind: kind, Nodes: append(make([]int, 0, 5), 1, 2, 3, -1)[:3]}, temp)
	}
}

func wantCheck(t *testing.T, a api.Acceptor, may bool) {
	t.Helper()
	must := api.ErrArg
	if may {
		must = api.OK
	}
	if e := acceptor.Check(a); e != must {
		t.Errorf("Check(%s) of %d slots: error %d, want %d", short(a), len(a.Slots), e, must)
	}
}

func TestCheck(t *testing.T) {
	for _, a := range rightOnes() {
		wantCheck(t, a, true)
	}
	for _, a := range wrongOnes() {
		wantCheck(t, a, false)
	}
}

func TestCheckOfPromised(t *testing.T) {
	for _, n := range []int{0, 1, 2, 8, top - 1, top} {
		wantCheck(t, of(n), true)
		wantCheck(t, of(n, acc(1, up(3))), n >= 1)
		wantCheck(t, of(n, acc(8, up(3))), n >= 8)
	}
	for _, n := range edges() {
		wantCheck(t, of(n), false)
		wantCheck(t, of(n, acc(1, up(3))), false)
	}
}

func TestCheckOfSlots(t *testing.T) {
	for _, many := range []int{0, 1, 2, 255, mostSlots, 257, 258, 512, 1000} {
		wantCheck(t, of(3, row(many, 3)...), many <= mostSlots)
		if many > 0 {
			wantCheck(t, of(3, append(make([]api.Accepted, many-1), acc(2, up(1)))...), many <= mostSlots)
			wantCheck(t, of(3, make([]api.Accepted, many)...), false)
			l := row(many, 3)
			l[many-1] = api.Accepted{}
			wantCheck(t, of(3, l...), false)
		}
	}
	behind := append(row(3, 3), acc(-1, up(1)), acc(9, api.Delta{}))
	wantCheck(t, of(3, behind[:3]...), true) // what lies behind the end does not count
}

// TestCheckOfASlot puts what may be there, and what may not, at each place of some slots.
func TestCheckOfASlot(t *testing.T) {
	for _, many := range []int{1, 2, 3, mostSlots} {
		for _, place := range []int{0, many / 2, many - 1} {
			last := place == many-1
			with := func(x api.Accepted) api.Acceptor {
				l := row(many, 3)
				l[place] = x
				return of(7, l...)
			}
			wantCheck(t, with(acc(0, api.Delta{})), !last)
			wantCheck(t, with(acc(0, api.Delta{Nodes: []int{}})), !last)
			for _, ballot := range []int{1, 2, 6, 7} {
				for _, d := range rights() {
					wantCheck(t, with(acc(ballot, d)), true)
				}
			}
			for _, ballot := range append(edges(), -1, 0, 8, 9, top, 1<<32+7) {
				for _, d := range rights() {
					wantCheck(t, with(acc(ballot, d)), false)
				}
				if ballot != 0 {
					wantCheck(t, with(acc(ballot, api.Delta{})), false)
				}
			}
			for _, ballot := range []int{-1, 0, 1, 7, 8} {
				for _, d := range wrongs() {
					wantCheck(t, with(acc(ballot, d)), ballot == 0 && !last && text(d) == text(api.Delta{}))
				}
			}
		}
	}
}

// TestCheckOfIdleSlots: of Ballot 0 each field counts.
func TestCheckOfIdleSlots(t *testing.T) {
	for _, n := range []int{1, 3, -1, top, math.MaxInt, math.MinInt} {
		for _, f := range append(fields(), field{"Kind", func(d *api.Delta) *int { return &d.Kind }}) {
			var d api.Delta
			*f.at(&d) = n
			wantCheck(t, of(3, acc(0, d), acc(1, up(3))), false)
		}
		wantCheck(t, of(3, acc(0, api.Delta{Nodes: []int{n}}), acc(1, up(3))), false)
	}
	wantCheck(t, of(3, acc(0, api.Delta{Nodes: []int{0}}), acc(1, up(3))), false)
}

// TestChecksOfDrawn holds drawn deltas and acceptors against the slow reckoning.
func TestChecksOfDrawn(t *testing.T) {
	c := chance(88172645463325252)
	var deltas, acceptors [2]int
	for range 20000 {
		d, a := c.delta(), c.acceptor()
		wantDelta(t, d, slowTold(d))
		wantCheck(t, a, slowMay(a))
		if slowTold(d) {
			deltas[1]++
		} else {
			deltas[0]++
		}
		if slowMay(a) {
			acceptors[1]++
		} else {
			acceptors[0]++
		}
	}
	if min(deltas[0], deltas[1], acceptors[0], acceptors[1]) < 1000 {
		t.Errorf("%v, %v: too few to tell", deltas, acceptors)
	}
}
