package acceptor_test

import (
	"math"
	"slices"
	"testing"

	"windrose/acceptor"
	"windrose/api"
)

func wantPick(t *testing.T, l [][]api.Accepted, must ...api.Accepted) {
	t.Helper()
	if got := acceptor.Pick(l); text(got) != text(must) {
		t.Errorf("Pick(%s): %s, want %s", short(l), short(got), short(must))
	}
}

func TestPick(t *testing.T) {
	idle := api.Accepted{}
	a, b, c := acc(5, up(1)), acc(7, up(2)), acc(7, up(3))
	wantPick(t, nil)
	wantPick(t, [][]api.Accepted{})
	wantPick(t, [][]api.Accepted{nil, {}, nil})
	wantPick(t, [][]api.Accepted{{a}}, a)
	wantPick(t, [][]api.Accepted{nil, {a}, {}}, a)
	wantPick(t, [][]api.Accepted{{b}, {a}, {idle}}, b) // first
	wantPick(t, [][]api.Accepted{{a}, {b}, {idle}}, b)
	wantPick(t, [][]api.Accepted{{idle}, {a}, {b}}, b)   // last
	wantPick(t, [][]api.Accepted{{a}, {b}, {c}}, b)      // twice
	wantPick(t, [][]api.Accepted{{c}, {a}, {b}}, c)      // the other one first
	wantPick(t, [][]api.Accepted{{c}, {b}, {c}, {b}}, c) // of more of them
	wantPick(t, [][]api.Accepted{{idle}, {idle}}, idle)  // none
	wantPick(t, [][]api.Accepted{{idle, idle, idle}, {a}, {idle, b}}, a, b, idle)
	wantPick(t, [][]api.Accepted{{a}, {idle, a, c}, {b, b}}, b, b, c)      // of unlike lengths
	wantPick(t, [][]api.Accepted{{idle, a, c}, {b, b}, {a}}, b, b, c)      // the longest one first
	wantPick(t, [][]api.Accepted{{b, b}, {a}, nil, {idle, a, c}}, b, b, c) // and last
	wantPick(t, [][]api.Accepted{{a, idle}, {a, idle}}, a, idle)           // it ends with one of Ballot 0
	wantPick(t, [][]api.Accepted{{acc(1, up(9))}, {acc(top, up(8))}}, acc(top, up(8)))
	wantPick(t, [][]api.Accepted{row(mostSlots, 3), row(255, 4)}, append(row(255, 4), row(mostSlots, 3)[255])...)
}

// TestPickOfWhatMayNotBe: it goes by the Ballots alone; of Ballot 0 there is nothing, whatever stands beside it.
func TestPickOfWhatMayNotBe(t *testing.T) {
	idle, odd := api.Accepted{}, acc(0, up(3))
	wantPick(t, [][]api.Accepted{{odd}}, idle)
	wantPick(t, [][]api.Accepted{{odd, odd}, {acc(0, pin(1, 2))}}, idle, idle)
	wantPick(t, [][]api.Accepted{{acc(-1, up(3))}, {odd}}, idle)
	wantPick(t, [][]api.Accepted{{odd}, {acc(-1, up(3))}}, idle)
	wantPick(t, [][]api.Accepted{{acc(math.MinInt, up(3))}, {acc(-5, up(4))}, {acc(-6, up(5))}}, acc(-5, up(4)))
	wantPick(t, [][]api.Accepted{{acc(math.MinInt, up(3))}}, acc(math.MinInt, up(3)))
	wantPick(t, [][]api.Accepted{{acc(math.MinInt, up(3))}, {acc(math.MaxInt, up(4))}, {acc(math.MaxInt, up(5))}}, acc(math.MaxInt, up(4)))
	wantPick(t, [][]api.Accepted{{acc(2, up(-1))}, {acc(3, api.Delta{Kind: 11, Nodes: make([]int, 9)})}}, acc(3, api.Delta{Kind: 11, Nodes: make([]int, 9)}))
	long := row(1000, 2)
	wantPick(t, [][]api.Accepted{long[:3], long}, long...)
}

// TestPickOfAllOrders picks of three lists of one or two places, by all Ballots from 0 to 3, each with a delta of its own.
func TestPickOfAllOrders(t *testing.T) {
	count := 0
	for x := range 1 << 12 {
		var l [][]api.Accepted
		for i := range 3 {
			here := x >> (4 * i)
			told := []api.Accepted{acc(here&3, up(10+i)), acc(here>>2&3, up(20+i))}
			for j := range told {
				if told[j].Ballot == 0 {
					told[j] = api.Accepted{}
				}
			}
			if here == 0 {
				told = told[:x>>8&1]
			}
			l = append(l, told)
		}
		wantPick(t, l, slowPick(l)...)
		count++
	}
	if count != 4096 {
		t.Errorf("%d", count)
	}
}

func TestPickOfDrawn(t *testing.T) {
	c := chance(88172645463325252)
	for range 5000 {
		var l [][]api.Accepted
		for range c.below(6) {
			told := c.acceptor().Slots
			if len(told) > 0 && c.below(10) == 0 {
				told = slices.Clone(told)
				told[c.below(len(told))] = acc(one(&c, ballots()...), c.delta())
			}
			l = append(l, told)
		}
		wantPick(t, l, slowPick(l)...)
	}
}

// TestPickOfAGreatManyLists: they are gone through once, not once for each place of the longest one.
func TestPickOfAGreatManyLists(t *testing.T) {
	l := make([][]api.Accepted, 200000)
	l[77] = make([]api.Accepted, 200000)
	l[78] = row(1, 3)
	l[199999] = row(2, 2)
	got := acceptor.Pick(l)
	if len(got) != 200000 || text(got[:3]) != text([]api.Accepted{row(1, 3)[0], row(2, 2)[1], {}}) {
		t.Errorf("%d places, %s", len(got), short(got))
	}
}
