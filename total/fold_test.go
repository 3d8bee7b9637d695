package total_test

import (
	"math"
	"slices"
	"testing"

	"windrose/api"
	"windrose/total"
)

func TestFoldKnown(t *testing.T) {
	for _, c := range []struct{ a, b, sum, min, max int }{
		{0, 0, 0, 0, 0},
		{0, 5, 5, 0, 5},
		{0, -5, -5, -5, 0},
		{3, 5, 8, 3, 5},
		{5, 5, 10, 5, 5},
		{-3, 5, 2, -3, 5},
		{-3, -5, -8, -5, -3},
		{0, far, far, 0, far},
		{0, -far, -far, -far, 0},
		{far, far, 1 << 54, far, far},
		{-far, -far, -1 << 54, -far, -far},
		{-far, far, 0, -far, far},
		{far - 1, far, 1<<54 - 1, far - 1, far},
		{1 - far, -far, 1 - 1<<54, -far, 1 - far},
		{far, 1, far + 1, 1, far},
		{-far, -1, -far - 1, -far, -1},
		{far + 1, 0, none, none, none},
		{-far - 1, 0, none, none, none},
		{far + 1, far, none, none, none},
		{far + 1, -far, none, none, none},
		{-far - 1, far, none, none, none},
		{far + 1, far + 1, none, none, none},
		{far + 1, -far - 1, none, none, none},
		{-far - 1, -far - 1, none, none, none},
		{math.MaxInt, 0, none, none, none},
		{math.MinInt, 0, none, none, none},
		{math.MaxInt, math.MaxInt, none, none, none},
		{math.MinInt, math.MinInt, none, none, none},
		{math.MaxInt, math.MinInt, none, none, none},
		{math.MaxInt, 1, none, none, none},
		{math.MinInt, -1, none, none, none},
	} {
		wantFold(t, "sums", api.TotalSum, c.a, c.b, c.sum)
		wantFold(t, "the least", api.TotalMin, c.a, c.b, c.min)
		wantFold(t, "the greatest", api.TotalMax, c.a, c.b, c.max)
		wantFold(t, "how many", api.TotalCount, c.a, c.b, c.sum)
		wantFold(t, "rates", api.TotalRate, c.a, c.b, none)
	}
}

// Edges are folded with each other, and with themselves.
func TestFoldEdges(t *testing.T) {
	for _, a := range edges() {
		for _, b := range edges() {
			for _, kind := range kinds() {
				must, ok := slowFold(kind, a, b)
				if !ok {
					must = none
				}
				wantFold(t, "edges", kind, a, b, must)
			}
		}
	}
}

func TestFoldNoKinds(t *testing.T) {
	for _, kind := range append(noKinds(), api.TotalRate) {
		for _, a := range edges() {
			for _, b := range []int{a, 0, 1, -far, far, -far - 1, far + 1, math.MinInt, math.MaxInt} {
				wantFold(t, "no kind", kind, a, b, none)
			}
		}
	}
}

// wantParts holds the total of samples against that of two parts of them, folded, both ways. A part of no samples has a sum and a count alone: where it has no total, that of all is the other part's.
func wantParts(t *testing.T, what string, l, a, b []api.Sample) {
	t.Helper()
	for _, kind := range folded() {
		all, ok := total.Of(kind, l)
		if !ok {
			if len(l) > 0 || kind == api.TotalSum || kind == api.TotalCount {
				t.Fatalf("%s: there is no total %d of %s", what, kind, short(l))
			}
			all = none
		}
		first, has := total.Of(kind, a)
		second, also := total.Of(kind, b)
		if has && also {
			wantFold(t, what, kind, first, second, all)
			continue
		}
		if has && len(a) == 0 || also && len(b) == 0 || !has && len(a) > 0 || !also && len(b) > 0 {
			t.Errorf("%s: total %d of the parts %s and %s: %v, %v", what, kind, short(a), short(b), has, also)
		}
		// One of the parts is the whole list, or both are none.
		wantOf(t, what, kind, slices.Concat(a, b), all)
	}
}

// wantCuts cuts samples at each place, ahead of the first and behind the last one too.
func wantCuts(t *testing.T, what string, l []api.Sample) {
	t.Helper()
	for at := range len(l) + 1 {
		wantParts(t, what, l, l[:at], l[at:])
	}
}

func TestCutAnywhere(t *testing.T) {
	for n := range most + 1 {
		for _, l := range [][]api.Sample{
			even(n, 0, 1, 0), even(n, 0, 7, 5), even(n, 0, 7, -5), even(n, 3, 9, top), even(n, 3, 9, -top),
			slope(n, 0, 1, -10, 1), slope(n, 0, 1, 10, -1), slope(n, 0, 1, 1, 1), slope(n, 0, 1, -1, -1), turns(n, top, -top), turns(n, -1, 1),
		} {
			wantCuts(t, "cut", l)
		}
	}
	wantCuts(t, "cut", row(0, 10, 30, 25, 60, 5))
	wantCuts(t, "cut", row(0, -top, top, top))
}

// A part of none has the sum 0 and the count 0, and neither a least nor a greatest, which 0 would spoil.
func TestPartOfNone(t *testing.T) {
	l := row(10, -5, 20, 7, 30, -9)
	for _, kind := range []int{api.TotalSum, api.TotalCount} {
		all, _ := total.Of(kind, l)
		wantOf(t, "of none", kind, nil, 0)
		wantFold(t, "with none", kind, all, 0, all)
	}
	for _, kind := range []int{api.TotalMin, api.TotalMax} {
		wantOf(t, "of none", kind, nil, none)
	}
	wantOf(t, "all above 0", api.TotalMin, row(10, 5, 20, 7), 5)
	wantOf(t, "all below 0", api.TotalMax, row(10, -5, 20, -7), -5)
}

// Few samples are parted in all ways, also where one part's times are among the other one's.
func TestAllParts(t *testing.T) {
	for _, l := range [][]api.Sample{
		nil, row(5, 7), row(5, -7), row(5, 7, 6, -7), row(0, 10, 30, 25, 60, 5),
		row(0, 3, 1, -3, 2, 8, 3, 8, 4, -9, 5, 0, 6, 1, 7, 2), row(0, top, 1, -top, 2, 0, 3, top, 9, -top, top, 1),
	} {
		for way := range 1 << len(l) {
			var a, b []api.Sample
			for i, s := range l {
				if way>>i&1 == 1 {
					a = append(a, s)
				} else {
					b = append(b, s)
				}
			}
			wantParts(t, "parted", l, a, b)
		}
	}
}

func TestDrawnParts(t *testing.T) {
	c := chance(31313131)
	for range 2000 {
		l := c.samples()
		wantCuts(t, "drawn and cut", l)
		a, b := c.parts(l)
		wantParts(t, "drawn and parted", l, a, b)
	}
}

// Samples are parted into single ones, and folded one behind the other.
func TestFoldOneByOne(t *testing.T) {
	c := chance(9753113579)
	for range 2000 {
		l := c.samples()
		if len(l) == 0 {
			continue
		}
		for _, kind := range folded() {
			all, ok := total.Of(kind, l[:1])
			for i := range l[1:] {
				next, has := total.Of(kind, l[i+1:i+2])
				folded, folds := total.Fold(kind, all, next)
				all, ok = folded, ok && has && folds
			}
			must, _ := total.Of(kind, l)
			if !ok || all != must {
				t.Errorf("total %d of %s, one by one: %d, %v, want %d", kind, short(l), all, ok, must)
			}
		}
	}
}

// A rate is not folded, for what is between two parts is in neither.
func TestRateIsNotFolded(t *testing.T) {
	l := row(0, 10, 30, 25, 60, 5, 90, 6)
	first, has := total.Of(api.TotalRate, l[:2])
	second, also := total.Of(api.TotalRate, l[2:])
	if !has || !also {
		t.Fatal("there is no rate of a part")
	}
	wantFold(t, "rates", api.TotalRate, first, second, none)
}
