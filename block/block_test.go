package block_test

import (
	"fmt"
	"math"
	"slices"
	"testing"

	"windrose/api"
	"windrose/block"
)

func TestExample(t *testing.T) {
	l := []api.Sample{{T: 10, V: 5}, {T: 20, V: 5}, {T: 30, V: 5}}
	d, e := block.Pack(l)
	if e != api.OK || !slices.Equal(d.Nums, []int{3, 10, 5, 10, 0, 0, 0}) || len(d.Texts) != 0 {
		t.Errorf("Pack = %v, %d", d, e)
	}
	wantUnpack(t, "the example", data(3, 10, 5, 10, 0, 0, 0), l)
}

func TestPackKnown(t *testing.T) {
	for _, c := range []struct {
		l    []api.Sample
		nums []int
	}{
		{nil, []int{0}},
		{[]api.Sample{}, []int{0}},
		{row(0, 0), []int{1, 0, 0}},
		{row(7, -3), []int{1, 7, -3}},
		{row(top, -top), []int{1, top, -top}},
		{row(7, -3, 9, 4), []int{2, 7, -3, 2, 7}},
		{row(0, top, top, -top), []int{2, 0, top, top, -2 * top}},
		{row(7, -3, 9, 4, 10, 4), []int{3, 7, -3, 2, 7, -1, -7}},
		{row(10, 5, 20, 6, 30, 7, 40, 8), []int{4, 10, 5, 10, 1, 0, 0, 0, 0}},
		{row(1, 1, 2, 4, 4, 9, 8, 16), []int{4, 1, 1, 1, 3, 1, 2, 2, 2}},
		{row(0, -top, 1, top, top, -top), []int{3, 0, -top, 1, 2 * top, top - 2, -4 * top}},
		{row(0, top, top-1, -top, top, top), []int{3, 0, top, top - 1, -2 * top, 2 - top, 4 * top}},
	} {
		if d, e := block.Pack(c.l); e != api.OK || !slices.Equal(d.Nums, c.nums) || len(d.Texts) != 0 {
			t.Errorf("Pack(%v) = %v, %d, want %v", c.l, d, e, c.nums)
		}
		wantUnpack(t, "known", data(c.nums...), c.l)
		wantCheck(t, "known", c.l, true)
	}
}

func TestHowMany(t *testing.T) {
	for n := range most + 1 {
		wantCheck(t, fmt.Sprint(n, " samples"), even(n, 0, 1, 0), true)
		wantCheck(t, fmt.Sprint(n, " samples far apart"), even(n, 3, top/most-1, -top), true)
	}
	for _, n := range []int{most + 1, most + 2, 2 * most, 1000, 1 << 16} {
		wantCheck(t, fmt.Sprint(n, " samples"), even(n, 0, 1, 0), false)
	}
	wantCheck(t, "too many of one time", even(most+1, 5, 0, 0), false)
	wantCheck(t, "many of one time", even(most, 5, 0, 0), false)
}

// Times and values at the edges stand in lists of one, and as the first, a middle and the last one of others.
func TestTimesAndValues(t *testing.T) {
	for _, x := range edges() {
		wantCheck(t, "a time", row(x, 0), x >= 0 && x <= top)
		wantCheck(t, "a value", row(5, x), x >= -top && x <= top)
		wantCheck(t, "the first time", row(x, 0, top, 0), x >= 0 && x < top)
		wantCheck(t, "the last time", row(0, 0, x, 0), x > 0 && x <= top)
		wantCheck(t, "a time between", row(3, 0, x, 0, top-4, 0), x > 3 && x < top-4)
		for i := range 3 {
			l := even(3, 0, 7, 1)
			l[i].V = x
			wantCheck(t, fmt.Sprint("value ", i), l, x >= -top && x <= top)
		}
	}
	for _, s := range []struct {
		t, v int
		ok   bool
	}{
		{0, 0, true}, {-1, 0, false}, {top, 0, true}, {top + 1, 0, false},
		{0, top, true}, {0, top + 1, false}, {0, -top, true}, {0, -top - 1, false},
		{top, top, true}, {top, -top, true}, {math.MinInt, 0, false}, {math.MaxInt, 0, false},
		{0, math.MinInt, false}, {0, math.MaxInt, false}, {-1, top + 1, false},
	} {
		wantCheck(t, "an edge", row(s.t, s.v), s.ok)
	}
}

func TestTimesRise(t *testing.T) {
	for _, l := range [][]api.Sample{
		row(5, 0, 5, 0),
		row(5, 0, 5, 1),
		row(0, 0, 0, 0),
		row(top, 0, top, 0),
		row(5, 0, 4, 0),
		row(top, 0, 0, 0),
		row(1, 0, 2, 0, 2, 0),
		row(1, 0, 2, 0, 1, 0),
		row(1, 0, 1, 0, 2, 0),
		row(3, 0, 2, 0, 1, 0),
		row(2, 0, 1, 0, 3, 0),
		row(1, 0, 2, 0, 3, 0, 0, 0),
		row(0, 0, math.MinInt, 0),
		row(math.MaxInt, 0, math.MinInt, 0),
		row(math.MinInt, 0, math.MaxInt, 0),
	} {
		wantCheck(t, "times that don't rise", l, false)
	}
	for i := 1; i < most; i++ {
		twice := even(most, 10, 10, 4)
		twice[i].T = twice[i-1].T
		wantCheck(t, fmt.Sprint("a time twice at ", i), twice, false)
		fallen := even(most, 10, 10, 4)
		fallen[i].T = fallen[i-1].T - 1
		wantCheck(t, fmt.Sprint("a time that falls at ", i), fallen, false)
		near := even(most, 10, 10, 4)
		near[i].T = near[i-1].T + 1
		wantCheck(t, fmt.Sprint("a time just behind at ", i), near, true)
	}
}

func TestBytesKnown(t *testing.T) {
	for _, c := range []struct {
		l []api.Sample
		n int
	}{
		{nil, 3},
		{row(0, 0), 5},
		{row(63, -64), 5},
		{row(64, -65), 7},
		{row(top, -top), 15},
		{row(10, 5, 20, 5, 30, 5), 9},
		{row(0, top, top, -top), 3 + 1 + 6 + 6 + 6},
		{row(0, top, 1, -top, 2, top), 3 + 1 + 6 + 1 + 6 + 1 + 7},
		{row(0, -top, 1, top, 2, -top), 3 + 1 + 6 + 1 + 7 + 1 + 7},
		{even(63, 0, 1, 0), 2 + 1 + 2*63},
		{even(64, 0, 1, 0), 3 + 2 + 2*64},
		{even(65, 0, 1, 0), 0},
		{row(5, 0, 5, 0), 0},
		{row(-1, 0), 0},
	} {
		if n := block.Bytes(c.l); n != c.n {
			t.Errorf("Bytes(%s) = %d, want %d", short(c.l), n, c.n)
		}
	}
}

func TestSame(t *testing.T) {
	lists := [][]api.Sample{
		nil,
		row(0, 0), row(0, 1), row(1, 0), row(1, 1), row(5, -5),
		row(5, 5, 6, 6), row(5, 5, 6, 7), row(5, 5, 7, 6), row(4, 5, 6, 6), row(5, 4, 6, 6),
		row(5, 5), row(6, 6), row(5, 5, 6, 6, 7, 7), row(0, 0, 1, 0), row(0, 0, 0, 0),
		// Of samples that may not be, too.
		row(6, 6, 5, 5), row(5, 5, 5, 5), row(-1, 0), row(0, top+1), row(math.MaxInt, math.MinInt), row(math.MinInt, math.MaxInt),
		even(most, 0, 1, 0), even(most+1, 0, 1, 0), even(1000, 0, 1, 0), even(most, 0, 2, 0), even(most, 0, 1, 1), even(most-1, 0, 1, 0),
	}
	for i, a := range lists {
		for j, b := range lists {
			if block.Same(a, b) != (i == j) {
				t.Errorf("Same(%s, %s) = %v", short(a), short(b), i != j)
			}
		}
		if !block.Same(a, slices.Clone(a)) {
			t.Errorf("Same of %s and a copy is false", short(a))
		}
	}
	if !block.Same(nil, []api.Sample{}) || !block.Same([]api.Sample{}, nil) || !block.Same(nil, nil) {
		t.Error("Same of nil and the empty list is false")
	}
	if !block.Same(even(3, 0, 1, 0)[:2], even(2, 0, 1, 0)) {
		t.Error("Same looks behind a list's end")
	}
}

func TestSameLooksAtEach(t *testing.T) {
	base := even(most, 3, 10, 7)
	for i := range base {
		time, value := slices.Clone(base), slices.Clone(base)
		time[i].T++
		value[i].V++
		for _, other := range [][]api.Sample{time, value, base[:i], slices.Delete(slices.Clone(base), i, i+1)} {
			if block.Same(base, other) || block.Same(other, base) {
				t.Errorf("Same is true of lists unlike at %d", i)
			}
		}
	}
}
