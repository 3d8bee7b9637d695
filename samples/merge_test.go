package samples_test

import (
	"math"
	"slices"
	"testing"

	"windrose/api"
	"windrose/samples"
)

func TestMergeKnown(t *testing.T) {
	three := row(10, 1, 20, 2, 30, 3)
	for _, c := range []struct {
		what       string
		a, b, must []api.Sample
		e          api.Errno
	}{
		{"none with none", nil, nil, nil, api.OK},
		{"none with the empty list", nil, []api.Sample{}, nil, api.OK},
		{"with none", three, nil, three, api.OK},
		{"with the empty list", three, []api.Sample{}, three, api.OK},
		{"with itself", three, three, three, api.OK},
		{"all noughts with none", row(0, 0), nil, row(0, 0), api.OK},
		{"all noughts with themselves", row(0, 0), row(0, 0), row(0, 0), api.OK},
		{"one ahead", three, row(5, 5), row(5, 5, 10, 1, 20, 2, 30, 3), api.OK},
		{"one between", three, row(25, 5), row(10, 1, 20, 2, 25, 5, 30, 3), api.OK},
		{"one behind", three, row(35, 5), row(10, 1, 20, 2, 30, 3, 35, 5), api.OK},
		{"by turns", three, row(5, 5, 15, 5, 25, 5, 35, 5), row(5, 5, 10, 1, 15, 5, 20, 2, 25, 5, 30, 3, 35, 5), api.OK},
		{"all behind", three, row(31, 0, 32, 0), row(10, 1, 20, 2, 30, 3, 31, 0, 32, 0), api.OK},
		{"some shared", three, row(15, 5, 20, 2, 30, 3, 40, 4), row(10, 1, 15, 5, 20, 2, 30, 3, 40, 4), api.OK},
		{"a part", three, row(20, 2), three, api.OK},
		{"the first shared", three, row(10, 1, 11, 1), row(10, 1, 11, 1, 20, 2, 30, 3), api.OK},
		{"the last shared", three, row(29, 1, 30, 3), row(10, 1, 20, 2, 29, 1, 30, 3), api.OK},
		{"edges", row(0, top, top, -top), row(0, top, 1, -top), row(0, top, 1, -top, top, -top), api.OK},
		{"unlike at the first time", three, row(10, 2), nil, api.ErrOther},
		{"unlike between", three, row(5, 5, 20, -2, 40, 0), nil, api.ErrOther},
		{"unlike at the last time", three, row(10, 1, 20, 2, 30, 4), nil, api.ErrOther},
		{"unlike at all times", three, row(10, 2, 20, 3, 30, 4), nil, api.ErrOther},
		{"unlike by the edges", row(5, top), row(5, -top), nil, api.ErrOther},
		{"unlike by 2^32", row(5, 1), row(5, 1<<32+1), nil, api.ErrOther},
	} {
		wantMerge(t, c.what, c.a, c.b, c.must, c.e)
	}
}

// From one list each of two takes so many, ahead and behind, and some of them are shared.
func TestMergeHowMany(t *testing.T) {
	all := even(2*most, 0, 3, 8)
	for n := range most + 1 {
		for m := range most + 1 {
			for _, shared := range []int{0, 1, min(n, m) / 2, min(n, m)} {
				if shared > min(n, m) {
					continue
				}
				a, b := all[:n], all[n-shared:n-shared+m]
				if n+m-shared > most {
					wantMerge(t, "too many", a, b, nil, api.ErrFull)
				} else {
					wantMerge(t, "not too many", a, b, all[:n+m-shared], api.OK)
				}
			}
		}
		if t.Failed() {
			return
		}
	}
}

func TestMergeOfMost(t *testing.T) {
	all := even(2*most, 0, 3, 8)
	var odd, other []api.Sample
	for i, s := range all {
		if i%2 == 0 {
			odd = append(odd, s)
		} else {
			other = append(other, s)
		}
	}
	wantMerge(t, "64 with themselves", odd, odd, odd, api.OK)
	wantMerge(t, "64 with none", odd, nil, odd, api.OK)
	wantMerge(t, "64 and 64 by turns", odd, other, nil, api.ErrFull)
	wantMerge(t, "32 and 32 by turns", odd[:32], other[:32], all[:most], api.OK)
	wantMerge(t, "32 and 33 by turns", odd[:32], other[:33], nil, api.ErrFull)
	for at := range odd {
		wantMerge(t, "64 with one of them", odd, odd[at:at+1], odd, api.OK)
		wantMerge(t, "64 with one more", odd, other[at:at+1], nil, api.ErrFull)
		wantMerge(t, "63 with the one that is gone", without(odd, at), odd[at:at+1], odd, api.OK)
		wantMerge(t, "63 with one more", without(odd, at), other[63:], append(without(odd, at), other[63]), api.OK)
	}
}

// Where values are unlike and there are too many as well, the unlike values come first, wherever they stand.
func TestMergeOtherAheadOfFull(t *testing.T) {
	full := even(most, 0, 2, 8)
	for at := range full {
		unlike := slices.Clone(full)
		unlike[at].V++
		wantMerge(t, "unlike alone", full, unlike, nil, api.ErrOther)
		wantMerge(t, "unlike, one alone", full, unlike[at:at+1], nil, api.ErrOther)
		shifted := even(most, 1, 2, 8)
		shifted[at].T, shifted[at].V = full[at].T, 9
		wantMerge(t, "unlike, and too many", full, shifted, nil, api.ErrOther)
		shifted[at].V = 8
		wantMerge(t, "too many alone", full, shifted, nil, api.ErrFull)
	}
	a, b := even(most, 0, 1, 8), even(most, most-1, 1, 8)
	wantMerge(t, "one shared, and too many", a, b, nil, api.ErrFull)
	b[0].V = 0
	wantMerge(t, "unlike where one ends and the other begins", a, b, nil, api.ErrOther)
}

// Samples that may not be on either side, or on both, are ErrArg, ahead of all else.
func TestMergeOfWrong(t *testing.T) {
	for _, l := range wrong() {
		for _, other := range [][]api.Sample{nil, {}, row(5, 1), row(5, 0), row(0, 0, top, top), even(most, 0, 1, 0), even(most, 1, 2, 9), even(most, 10, 10, 4), l} {
			wantMerge(t, "may not be", l, other, nil, api.ErrArg)
		}
	}
	for _, s := range misfits() {
		wantMerge(t, "may not be", []api.Sample{s}, row(5, 1, 6, 2), nil, api.ErrArg)
	}
	wantMerge(t, "wrong in the room behind both", row(5, 1, -1, 0)[:1], row(6, 1, 6, top+1)[:1], row(5, 1, 6, 1), api.OK)
}

func TestMergeEdges(t *testing.T) {
	for _, l := range [][]api.Sample{nil, row(0, 0, top, 0), row(0, top, 1, -top, top, 3), even(most, 0, top/most, 1)} {
		for _, x := range edges() {
			holdMerge(t, "a time", l, row(x, 0))
			holdMerge(t, "a value", l, row(0, x))
			holdMerge(t, "a value", l, row(1, x))
			holdMerge(t, "a time behind another", l, row(2, 7, x, 1))
		}
	}
	holdMerge(t, "the edges of int", row(math.MinInt, 0), row(math.MaxInt, 0))
}

// allOf is each list of samples of the times below n, with a value of 0 or 1 each.
func allOf(n int) [][]api.Sample {
	lists := [][]api.Sample{nil}
	for at := range n {
		for _, l := range slices.Clone(lists) {
			for v := range 2 {
				lists = append(lists, append(slices.Clone(l), api.Sample{T: at, V: v}))
			}
		}
	}
	return lists
}

// All calls on all lists of few times are as the slow reckoning says.
func TestAllOfFew(t *testing.T) {
	lists := allOf(4)
	if len(lists) != 81 {
		t.Fatalf("the test is wrong: %d lists", len(lists))
	}
	for _, a := range lists {
		holdTimes(t, "all lists", a, -1, 0, 1, 2, 3, 4, 5)
		for at := -1; at < 5; at++ {
			holdPut(t, "all lists", a, api.Sample{T: at, V: 0})
			holdPut(t, "all lists", a, api.Sample{T: at, V: 1})
		}
		for _, b := range lists {
			holdMerge(t, "all lists", a, b)
		}
	}
}

// Lists of up to three samples in any order, most of which may not be, are as the slow reckoning says.
func TestAllOrders(t *testing.T) {
	kinds := row(-1, 0, 0, 0, 0, 1, 1, 0, 2, top+1, top, 0)
	lists := [][]api.Sample{nil}
	for at := 0; len(lists[at]) < 3; at++ {
		for _, s := range kinds {
			lists = append(lists, append(slices.Clone(lists[at]), s))
		}
	}
	for _, a := range lists {
		holdTimes(t, "all orders", a, -1, 0, 1, 2, top, top+1)
		for _, s := range kinds {
			holdPut(t, "all orders", a, s)
		}
		for _, b := range lists {
			holdMerge(t, "all orders", a, b)
		}
		if t.Failed() {
			return
		}
	}
}

func TestMergeDrawn(t *testing.T) {
	c := chance(64)
	seen := map[api.Errno]int{}
	for range 6000 {
		a, b := c.samples(), c.samples()
		if c.below(2) == 0 {
			a, b = c.parts(c.samples())
			if len(b) > 0 && c.below(3) == 0 {
				b[c.below(len(b))].V = one(&c, 0, 1, -1)
			}
			if len(b) > 0 && c.below(9) == 0 {
				b[c.below(len(b))].T = one(&c, -1, 0, top)
			}
		}
		seen[holdMerge(t, "drawn", a, b)]++
		if t.Failed() {
			return
		}
	}
	for _, e := range []api.Errno{api.OK, api.ErrArg, api.ErrOther, api.ErrFull} {
		if seen[e] < 50 {
			t.Errorf("the error %d was drawn %d times alone", e, seen[e])
		}
	}
}

// Parts of samples, merged, are the samples, as they are if those of one part are put into the other.
func TestMergeIsPut(t *testing.T) {
	c := chance(333)
	for range 500 {
		must := c.samples()
		a, b := c.parts(must)
		wantMerge(t, "parts", a, b, must, api.OK)
		all := a
		for _, s := range c.shuffled(b) {
			var e api.Errno
			if all, e = samples.Put(all, s); e != api.OK && e != api.ErrSame {
				t.Fatalf("Put(%s, %v): %d", short(all), s, e)
			}
		}
		if !slices.Equal(all, must) {
			t.Errorf("put: %s, want %s", short(all), short(must))
		}
	}
}

// Trim and what Range tells ahead of it, merged, are the samples.
func TestMergeOfCuts(t *testing.T) {
	c := chance(8)
	for range 300 {
		l := c.samples()
		for _, at := range []int{-1, 0, c.below(100), c.below(top), top, top + 1, math.MaxInt} {
			wantMerge(t, "cuts", samples.Range(l, 0, at), samples.Trim(l, max(at, 0)), l, api.OK)
		}
	}
}
