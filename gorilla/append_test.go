package gorilla_test

import (
	"fmt"
	"math"
	"slices"
	"testing"

	"windrose/api"
	"windrose/gorilla"
)

// wantAppend asks for the chunk of a list and a sample; where it is refused, for that of the list.
func wantAppend(t *testing.T, l []api.Sample, s api.Sample, f api.Errno) {
	t.Helper()
	must := slowChunk(l)
	if f == api.OK {
		must = slowChunk(append(slices.Clone(l), s))
	}
	c, e := gorilla.Append(slowChunk(l), s)
	wantChunk(t, fmt.Sprintf("Append(%s, %v)", short(l), s), c, e, must, f)
}

// TestAppend: behind all kinds of lists, where the last sample of each is put behind the others.
func TestAppend(t *testing.T) {
	for _, l := range lists() {
		if n := len(l) - 1; n > 0 {
			wantAppend(t, l[:n], l[n], api.OK)
		}
	}
}

// TestAppendToRuns: it begins a run, lengthens one, begins the next one, or breaks it.
func TestAppendToRuns(t *testing.T) {
	for n := range 62 {
		l := led(append([]int{0, 5, 10, 1}, still(n)...)...)
		at := l[n+1]
		wantAppend(t, l, api.Sample{T: at.T + 10, V: at.V + 1}, api.OK)
		for _, s := range []api.Sample{{T: at.T + 11, V: at.V + 1}, {T: at.T + 9, V: at.V + 1}, {T: at.T + 10, V: at.V}, {T: at.T + 10, V: at.V + 2}, {T: at.T + 1, V: at.V}, {T: top, V: -top}} {
			wantAppend(t, l, s, api.OK)
		}
	}
	start := "0 0 10 0000010 0 "
	for _, c := range []struct {
		ahead, behind string
		n, next, v    int
	}{
		{"", "00 0000", 2, 2, 0}, {"", "10 0000010 0", 2, 3, 0}, {"", "0 10 0000010", 2, 2, 1},
		{"00 0000", "00 0001", 3, 3, 0}, {"00 1101", "00 1110", 16, 16, 0}, {"00 1110", "00 1111", 17, 17, 0}, {"00 1111", "00 1111 00 0000", 18, 18, 0}, {"00 1111 00 0000", "00 1111 00 0001", 19, 19, 0},
		{"00 0000", "00 0000 10 0000010 0", 3, 4, 0}, {"00 1110", "00 1110 0 10 0000010", 17, 17, 1}, {"00 1111", "00 1111 10 0000010 10 0000001", 18, 19, -1},
	} {
		y, e := gorilla.Append(chunk(c.n, 0, c.n-1, start+c.ahead), api.Sample{T: c.next, V: c.v})
		wantChunk(t, c.ahead, y, e, chunk(c.n+1, 0, c.next, start+c.behind), api.OK)
	}
	wantAppend(t, row(0, 0), api.Sample{T: 1, V: 0}, api.OK)
	wantAppend(t, row(5, 5), api.Sample{T: 10, V: 10}, api.OK)
}

// TestAppendAtTheLastTime: at Last, ahead of it, and behind it.
func TestAppendAtTheLastTime(t *testing.T) {
	for _, l := range [][]api.Sample{row(0, 0), row(5, 5), even(2), even(3), rough(10), even(63), rough(63), even(64), rough(64)} {
		last, first := l[len(l)-1].T, l[0].T
		for _, time := range []int{last, last - 1, first, first - 1, 0, (first + last) / 2} {
			if time < 0 {
				wantAppend(t, l, api.Sample{T: time, V: 5}, api.ErrArg)
				continue
			}
			wantAppend(t, l, api.Sample{T: time, V: 5}, api.ErrOld)
			wantAppend(t, l, l[len(l)-1], api.ErrOld)
		}
		for _, time := range []int{last + 1, last + 2, last + 10, top} {
			f := api.OK
			if len(l) == 64 {
				f = api.ErrFull
			}
			for _, v := range []int{0, 7, -3, top, -top} {
				wantAppend(t, l, api.Sample{T: time, V: v}, f)
			}
		}
	}
	for _, l := range [][]api.Sample{row(top, 0), row(0, 0, top, 0), wild(64), wild(63)} {
		wantAppend(t, l, api.Sample{T: top}, api.ErrOld)
		wantAppend(t, l, api.Sample{T: top - 1}, api.ErrOld)
		wantAppend(t, l, api.Sample{T: top + 1}, api.ErrArg)
	}
}

// TestAppendOfSamplesThatMayNotBe: whatever the chunk, also where they are old, and where it is full.
func TestAppendOfSamplesThatMayNotBe(t *testing.T) {
	for _, l := range [][]api.Sample{row(0, 0), row(5, 5), even(3), rough(10), rough(63), even(64), wild(64)} {
		for _, x := range edges() {
			if x < 0 || x > top {
				wantAppend(t, l, api.Sample{T: x}, api.ErrArg)
				wantAppend(t, l, api.Sample{T: x, V: x}, api.ErrArg)
			}
			if x < -top || x > top {
				for _, time := range []int{0, l[len(l)-1].T, l[len(l)-1].T + 1, top} {
					wantAppend(t, l, api.Sample{T: time, V: x}, api.ErrArg)
				}
			}
		}
	}
}

// TestAppendToChunksThatMayNotBe: whatever the sample.
func TestAppendToChunksThatMayNotBe(t *testing.T) {
	right := slowChunk(even(64))
	for _, turn := range []func(c *api.Chunk){
		func(c *api.Chunk) { c.N = 63 }, func(c *api.Chunk) { c.N = 65 }, func(c *api.Chunk) { c.First++ }, func(c *api.Chunk) { c.Last-- }, func(c *api.Chunk) { c.Last = 0 }, func(c *api.Chunk) { c.Bits.N-- }, func(c *api.Chunk) { c.Bits = api.Bits{} }, func(c *api.Chunk) { *c = api.Chunk{} },
	} {
		c := right
		turn(&c)
		for _, s := range row(top, 0, 0, 0, -1, 0, 0, top+1, right.Last, 0, right.Last+1, 0) {
			y, e := gorilla.Append(c, s)
			wantChunk(t, "Append", y, e, api.Chunk{}, api.ErrText)
		}
	}
}

// wantSlice asks for those of a list from a time on, ahead of another one.
func wantSlice(t *testing.T, l []api.Sample, from, to int) {
	t.Helper()
	var must []api.Sample
	for _, s := range l {
		if s.T >= from && s.T < to {
			must = append(must, s)
		}
	}
	got, e := gorilla.Slice(slowChunk(l), from, to)
	wantSamples(t, fmt.Sprintf("Slice(%s, %d, %d)", short(l), from, to), got, e, must, api.OK)
}

// TestSlice: from and to at each time, beside it, between, below 0 and at the edges of an int; from at to and behind it, too.
func TestSlice(t *testing.T) {
	for _, l := range [][]api.Sample{row(0, 0), row(5, 5), row(top, 1), row(0, 0, top, 0), even(3), even(18), rough(6), led(0, 0, 7, 1, 0, 0, 0, 0, 5, 0), wild(7)} {
		var times []int
		for _, s := range l {
			times = append(times, s.T-1, s.T, s.T+1, s.T+5)
		}
		times = append(times, -1, 0, -5, top, top+1, math.MinInt, math.MinInt+1, math.MaxInt, math.MaxInt-1)
		for _, from := range times {
			for _, to := range times {
				wantSlice(t, l, from, to)
			}
		}
	}
}

func TestSliceKnown(t *testing.T) {
	c := slowChunk(row(10, 1, 20, 2, 30, 3, 40, 4))
	for _, x := range []struct {
		from, to int
		must     []api.Sample
	}{
		{10, 40, row(10, 1, 20, 2, 30, 3)}, {10, 41, row(10, 1, 20, 2, 30, 3, 40, 4)}, {11, 40, row(20, 2, 30, 3)}, {9, 11, row(10, 1)}, {40, 41, row(40, 4)}, {41, 50, nil}, {0, 10, nil},
		{25, 25, nil}, {20, 20, nil}, {30, 20, nil}, {20, 21, row(20, 2)}, {21, 29, nil}, {-5, 15, row(10, 1)}, {math.MinInt, math.MaxInt, row(10, 1, 20, 2, 30, 3, 40, 4)}, {math.MaxInt, math.MinInt, nil},
	} {
		got, e := gorilla.Slice(c, x.from, x.to)
		wantSamples(t, fmt.Sprint(x.from, x.to), got, e, x.must, api.OK)
	}
}

// TestSliceOfAll: of all kinds of lists all, the first half, and the second one.
func TestSliceOfAll(t *testing.T) {
	for _, l := range lists() {
		half := l[len(l)/2].T
		wantSlice(t, l, 0, top+1)
		wantSlice(t, l, 0, half)
		wantSlice(t, l, half, top+1)
		wantSlice(t, l, l[0].T+1, l[len(l)-1].T)
	}
}
