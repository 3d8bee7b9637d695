package postings_test

import (
	"math"
	"slices"
	"testing"

	"windrose/api"
	"windrose/postings"
)

func TestAddKnown(t *testing.T) {
	l := []int{3, 5, 6}
	for _, c := range []struct {
		n    int
		must []int
		e    api.Errno
	}{
		{0, []int{0, 3, 5, 6}, api.OK}, {2, []int{2, 3, 5, 6}, api.OK}, {4, []int{3, 4, 5, 6}, api.OK}, {7, []int{3, 5, 6, 7}, api.OK}, {top, []int{3, 5, 6, top}, api.OK},
		{3, l, api.ErrSame}, {5, l, api.ErrSame}, {6, l, api.ErrSame},
		{-1, nil, api.ErrArg}, {top + 1, nil, api.ErrArg}, {math.MinInt, nil, api.ErrArg}, {math.MaxInt, nil, api.ErrArg}, {1<<32 + 3, nil, api.ErrArg}, {-3, nil, api.ErrArg},
	} {
		wantAdd(t, l, c.n, c.must, c.e)
	}
	for _, none := range [][]int{nil, {}} {
		for _, n := range []int{0, 5, top} {
			wantAdd(t, none, n, []int{n}, api.OK)
		}
		wantAdd(t, none, -1, nil, api.ErrArg)
		wantAdd(t, none, top+1, nil, api.ErrArg)
	}
}

// TestAddOfAsManyAsMayBe: with one less there is room, else none; a number that is there is told so ahead of it, one that may not be ahead of both.
func TestAddOfAsManyAsMayBe(t *testing.T) {
	full, nearly := steps(5, 2, most), steps(5, 2, most-1)
	for _, n := range []int{0, 3, 4, 6, 8, most, 2 * most, 4 + 2*most, 5 + 2*most, top} {
		wantAdd(t, full, n, full, api.ErrFull)
	}
	for _, i := range []int{0, 1, most / 2, most - 2, most - 1} {
		wantAdd(t, full, full[i], full, api.ErrSame)
	}
	for _, n := range mayNot() {
		wantAdd(t, full, n, nil, api.ErrArg)
		wantAdd(t, nearly, n, nil, api.ErrArg)
	}
	wantAdd(t, nearly, full[most-1], full, api.OK)
	wantAdd(t, nearly, 0, append([]int{0}, nearly...), api.OK)
	wantAdd(t, nearly, 6, slices.Concat([]int{5, 6}, nearly[1:]), api.OK)
	wantAdd(t, nearly, 5, nearly, api.ErrSame)
	wantAdd(t, nearly, top, slices.Concat(nearly, []int{top}), api.OK)
}

// TestAdd: of all lists each number, those beside, and the edges.
func TestAdd(t *testing.T) {
	for _, l := range rights() {
		for _, n := range beside(l) {
			switch {
			case n < 0 || n > top:
				wantAdd(t, l, n, nil, api.ErrArg)
			case slices.Contains(l, n):
				wantAdd(t, l, n, l, api.ErrSame)
			case len(l) == 4096:
				wantAdd(t, l, n, l, api.ErrFull)
			default:
				must := append([]int{n}, l...)
				slices.Sort(must)
				wantAdd(t, l, n, must, api.OK)
			}
		}
	}
}

func TestRemoveKnown(t *testing.T) {
	l := []int{3, 5, 6, 9}
	for _, c := range []struct {
		n    int
		must []int
		e    api.Errno
	}{
		{3, []int{5, 6, 9}, api.OK}, {5, []int{3, 6, 9}, api.OK}, {6, []int{3, 5, 9}, api.OK}, {9, []int{3, 5, 6}, api.OK},
		{0, l, api.ErrNone}, {2, l, api.ErrNone}, {4, l, api.ErrNone}, {7, l, api.ErrNone}, {10, l, api.ErrNone}, {top, l, api.ErrNone},
		{-1, l, api.ErrNone}, {top + 1, l, api.ErrNone}, {math.MinInt, l, api.ErrNone}, {math.MaxInt, l, api.ErrNone}, {1<<32 + 3, l, api.ErrNone}, {-3, l, api.ErrNone},
	} {
		wantRemove(t, l, c.n, c.must, c.e)
	}
	wantRemove(t, []int{5}, 5, nil, api.OK)
	wantRemove(t, []int{0}, 0, nil, api.OK)
	wantRemove(t, []int{top}, top, nil, api.OK)
	wantRemove(t, []int{5}, 4, []int{5}, api.ErrNone)
	for _, n := range edges() {
		wantRemove(t, nil, n, nil, api.ErrNone)
		wantRemove(t, []int{}, n, nil, api.ErrNone)
	}
}

// TestRemove: of all lists each number, those beside, and the edges.
func TestRemove(t *testing.T) {
	for _, l := range rights() {
		for _, n := range beside(l) {
			if i := slices.Index(l, n); i < 0 {
				wantRemove(t, l, n, l, api.ErrNone)
			} else {
				wantRemove(t, l, n, slices.Concat(l[:i], l[i+1:]), api.OK)
			}
		}
	}
}

// TestChangesOfWrongs: of lists that may not be none is told, whatever the number.
func TestChangesOfWrongs(t *testing.T) {
	for _, l := range wrongs() {
		for _, n := range append(edges(), 5, 9, l[0], l[0]+1, l[len(l)-1], l[len(l)-1]+1) {
			wantAdd(t, l, n, nil, api.ErrArg)
			wantRemove(t, l, n, nil, api.ErrArg)
		}
	}
}

// TestOneByOne: numbers come and go, as in a set.
func TestOneByOne(t *testing.T) {
	c := chance(362436069)
	for range 5 {
		var l []int
		set := map[int]bool{}
		for range 2000 {
			n, e := c.below(60), api.OK
			var f api.Errno
			if c.below(5) < 3 {
				if set[n] {
					f = api.ErrSame
				}
				set[n] = true
				l, e = postings.Add(l, n)
			} else {
				if !set[n] {
					f = api.ErrNone
				}
				delete(set, n)
				l, e = postings.Remove(l, n)
			}
			wantTold(t, "one by one", l, e, sorted(set), f)
		}
	}
}
