package total_test

import (
	"fmt"
	"testing"

	"windrose/api"
)

func TestExample(t *testing.T) {
	wantOf(t, "the example", api.TotalRate, row(0, 10, 30, 25, 60, 5), 20)
}

func TestOfKnown(t *testing.T) {
	for _, c := range []struct {
		l                        []api.Sample
		sum, min, max, n, growth int
	}{
		{nil, 0, none, none, 0, none},
		{[]api.Sample{}, 0, none, none, 0, none},
		{row(0, 0), 0, 0, 0, 1, none},
		{row(5, 7), 7, 7, 7, 1, none},
		{row(5, -7), -7, -7, -7, 1, none},
		{row(top, top), top, top, top, 1, none},
		{row(0, -top), -top, -top, -top, 1, none},
		{row(0, 10, 60, 70), 80, 10, 70, 2, 60},
		{row(0, 70, 60, 10), 80, 10, 70, 2, 10},
		{row(0, 4, 60, 4), 8, 4, 4, 2, 0},
		{row(0, -4, 60, -4), -8, -4, -4, 2, 0},
		{row(0, -top, top, top), 0, -top, top, 2, 120},
		{row(0, top, top, -top), 0, -top, top, 2, 0},
		{row(0, 10, 30, 25, 60, 5), 40, 5, 25, 3, 20},
		{row(0, -10, 30, -25, 60, -5), -40, -25, -5, 3, 20},
		{row(900, 1, 901, 2, 902, 3), 6, 1, 3, 3, 60},
		{even(most, 0, 1, 3), 192, 3, 3, 64, 0},
		{even(most, 0, 1, top), 1 << 46, top, top, 64, 0},
		{even(most, 0, 1, -top), -1 << 46, -top, -top, 64, 0},
		{slope(most, 0, 60, 1, 1), 2080, 1, 64, 64, 1},
		{slope(most, 0, 60, 64, -1), 2080, 1, 64, 64, 32},
		{slope(most, 0, 60, -64, 1), -2080, -64, -1, 64, 1},
		{slope(most, 0, 60, -1, -1), -2080, -64, -1, 64, 0},
		{turns(most, -top, top), 0, -top, top, 64, 32 * 2 * top * 60 / 63},
		{turns(most, top, -top), 0, -top, top, 64, 31 * 2 * top * 60 / 63},
		{even(most+1, 0, 1, 3), none, none, none, none, none},
	} {
		wantOf(t, "the sum", api.TotalSum, c.l, c.sum)
		wantOf(t, "the least", api.TotalMin, c.l, c.min)
		wantOf(t, "the greatest", api.TotalMax, c.l, c.max)
		wantOf(t, "how many", api.TotalCount, c.l, c.n)
		wantOf(t, "the rate", api.TotalRate, c.l, c.growth)
	}
}

func TestHowMany(t *testing.T) {
	for n := range most + 4 {
		for _, l := range [][]api.Sample{
			even(n, 0, 1, 3), even(n, 7, 13, top), even(n, 7, 13, -top), even(n, 0, top/(most+4), 0),
			slope(n, 0, 7, 1, 1), slope(n, 0, 7, -1, -1), slope(n, 3, 7, 100, -2), slope(n, 3, 7, -100, 3),
			turns(n, top, -top), turns(n, -top, top), turns(n, top, top-1), turns(n, 5, 0),
		} {
			holdOf(t, fmt.Sprint(n, " samples"), l)
		}
	}
	for _, n := range []int{2 * most, 1000, 1 << 16} {
		holdOf(t, fmt.Sprint(n, " samples"), slope(n, 0, 1, 1, 1))
	}
}

// Of every other kind there is no total, whatever the samples are.
func TestNoKinds(t *testing.T) {
	lists := append([][]api.Sample{
		nil, {}, row(5, 7), row(0, 10, 60, 70), row(0, 10, 30, 25, 60, 5), even(most, 0, 1, 3), even(most+1, 0, 1, 3), turns(most, -top, top),
	}, wrong()...)
	for _, kind := range noKinds() {
		for _, l := range lists {
			wantOf(t, "no kind", kind, l, none)
		}
	}
}

func TestWrongSamples(t *testing.T) {
	for _, l := range wrong() {
		for _, kind := range kinds() {
			wantOf(t, "samples that may not be", kind, l, none)
		}
	}
}

// Times and values at the edges stand in lists of one, and as the first, a middle and the last one of others.
func TestEdges(t *testing.T) {
	for _, x := range edges() {
		for _, l := range [][]api.Sample{
			row(x, 7), row(7, x), row(x, 7, top, 9), row(0, 7, x, 9), row(3, 1, x, 7, top-4, 9),
			row(0, x, 60, 5), row(0, 5, 60, x), row(0, 5, 60, x, 120, 5), row(0, x, 60, x), row(0, x, 60, -x, 120, x),
		} {
			holdOf(t, "an edge", l)
		}
		for _, y := range edges() {
			holdOf(t, "edges", row(0, x, 60, y))
			holdOf(t, "edges", row(x, 3, y, 5))
		}
	}
	for _, kind := range kinds() {
		wantOf(t, "T -1", kind, row(-1, 3, 5, 4), none)
		wantOf(t, "T beyond MaxTime", kind, row(5, 3, top+1, 4), none)
		wantOf(t, "V beyond -MaxValue", kind, row(5, -top-1, 6, 4), none)
		wantOf(t, "V beyond MaxValue", kind, row(5, 4, 6, top+1), none)
	}
	wantOf(t, "T 0 and MaxTime", api.TotalSum, row(0, 3, top, 4), 7)
	wantOf(t, "T 0 and MaxTime", api.TotalCount, row(0, 3, top, 4), 2)
}

// The least, or the greatest, may stand at any place, and more than once; what else there is does not count.
func TestLeastAndGreatestAnywhere(t *testing.T) {
	for i := range most {
		for j := range most {
			l := even(most, 0, 9, 50)
			l[i].V, l[j].V = -3, -3
			wantOf(t, "the least", api.TotalMin, l, -3)
			wantOf(t, "the greatest beside it", api.TotalMax, l, 50)
			l[i].V, l[j].V = 99, 99
			wantOf(t, "the greatest", api.TotalMax, l, 99)
			wantOf(t, "the least beside it", api.TotalMin, l, 50)
			l[j].V = 7
			holdOf(t, "two unlike ones", l)
		}
	}
}

// eachRow goes through all rows of up to so many values, times one behind the other at each of these distances.
func eachRow(values, distances []int, longest int, try func(l []api.Sample)) {
	var grow func(l []api.Sample)
	grow = func(l []api.Sample) {
		try(l)
		if len(l) == longest {
			return
		}
		for _, v := range values {
			if len(l) == 0 {
				grow(row(5, v))
				continue
			}
			for _, d := range distances {
				grow(append(l[:len(l):len(l)], api.Sample{T: l[len(l)-1].T + d, V: v}))
			}
		}
	}
	grow(nil)
}

func TestAllShortRows(t *testing.T) {
	eachRow([]int{-7, -1, 0, 1, 5}, []int{1, 7, 60, 61}, 3, func(l []api.Sample) { holdOf(t, "a short row", l) })
	eachRow([]int{-top, -2, 0, 3, top}, []int{1, 59}, 4, func(l []api.Sample) { holdOf(t, "a short row", l) })
	eachRow([]int{-3, 0, 4}, []int{1, 11}, 5, func(l []api.Sample) { holdOf(t, "a short row", l) })
}

// Times turn back and stand still, too: most of these rows may not be.
func TestAllShortRowsOfAnyTimes(t *testing.T) {
	eachRow([]int{-1, 0, 3}, []int{-6, -1, 0, 1, 7}, 4, func(l []api.Sample) { holdOf(t, "a row of any times", l) })
}

func TestDrawn(t *testing.T) {
	c := chance(13131313)
	for range 20000 {
		l := c.samples()
		holdOf(t, "drawn", l)
		if len(l) == 0 {
			continue
		}
		at := c.below(len(l))
		if c.below(2) == 0 {
			l[at].T = one(&c, edges()...)
		} else {
			l[at].V = one(&c, edges()...)
		}
		holdOf(t, "drawn, and one of them turned", l)
	}
}
