package gorilla_test

import (
	"fmt"
	"math"
	"testing"

	"windrose/api"
	"windrose/gorilla"
)

// TestNext: all samples, one by one, up to the end and beyond it.
func TestNext(t *testing.T) {
	for _, l := range lists() {
		x := gorilla.Open(slowChunk(l))
		for i, s := range l {
			wantNext(t, fmt.Sprintf("%d of %s", i, short(l)), x, s, true)
		}
		wantNone(t, short(l), x)
	}
}

// skips are times to skip to: each one's, those beside it, between, and the edges.
func skips(l []api.Sample) []int {
	times := []int{-1, 0, top, top + 1, math.MinInt, math.MaxInt, math.MinInt + 1}
	for _, s := range l {
		times = append(times, s.T-1, s.T, s.T+1, s.T+4)
	}
	return times
}

// TestSkip: from each place on, to each time.
func TestSkip(t *testing.T) {
	for _, l := range [][]api.Sample{row(0, 0), row(5, 5), row(top, 1), row(0, 0, top, 0), even(3), even(19), even(35), rough(6), led(0, 0, 7, 1, 0, 0, 0, 0, 5, 0), wild(7)} {
		c := slowChunk(l)
		for passed := range len(l) + 1 {
			for _, time := range skips(l) {
				x, slow := gorilla.Open(c), &slowCursor{l: l}
				for range passed {
					x.Next()
					slow.next()
				}
				what := fmt.Sprintf("%d passed of %s", passed, short(l))
				must, ok := slow.skip(time)
				wantSkip(t, what, x, time, must, ok)
				must, ok = slow.next()
				wantNext(t, what, x, must, ok)
				for range 2 {
					must, ok = slow.skip(time)
					wantSkip(t, what, x, time, must, ok)
				}
			}
		}
	}
}

// TestSkipKnown: by hand.
func TestSkipKnown(t *testing.T) {
	x := gorilla.Open(slowChunk(even(20))) // at 100, 110, .. 290
	wantSkip(t, "ahead of all", x, -5, api.Sample{T: 100, V: 7}, true)
	wantSkip(t, "one that is passed", x, 100, api.Sample{T: 110, V: 7}, true)
	wantSkip(t, "long ahead", x, math.MinInt, api.Sample{T: 120, V: 7}, true)
	wantSkip(t, "at a time", x, 150, api.Sample{T: 150, V: 7}, true)
	wantNext(t, "the next one", x, api.Sample{T: 160, V: 7}, true)
	wantSkip(t, "between times", x, 171, api.Sample{T: 180, V: 7}, true)
	wantSkip(t, "just behind a time", x, 181, api.Sample{T: 190, V: 7}, true)
	wantSkip(t, "across the end of a run", x, 285, api.Sample{T: 290, V: 7}, true)
	wantSkip(t, "behind all", x, 290, api.Sample{}, false)
	wantNone(t, "behind all", x)
	x = gorilla.Open(slowChunk(even(20)))
	wantSkip(t, "the last one", x, 290, api.Sample{T: 290, V: 7}, true)
	wantNone(t, "behind the last one", x)
	x = gorilla.Open(slowChunk(even(20)))
	wantSkip(t, "behind the last one", x, 291, api.Sample{}, false)
	wantSkip(t, "all are passed", x, 100, api.Sample{}, false)
	wantNone(t, "all are passed", x)
}

// TestNextAndSkipByTurns: a cursor is held against a slow one.
func TestNextAndSkipByTurns(t *testing.T) {
	c := chance(88172645463325252)
	for range 2000 {
		l := c.samples(1 + c.below(most))
		x, slow := gorilla.Open(slowChunk(l)), &slowCursor{l: l}
		times := skips(l)[7:]
		for range c.below(30) {
			if c.below(2) == 0 {
				must, ok := slow.next()
				wantNext(t, short(l), x, must, ok)
				continue
			}
			time := times[min(len(times)-1, 4*slow.passed+c.below(40))]
			if c.below(8) == 0 {
				time = times[c.below(len(times))]
			}
			must, ok := slow.skip(time)
			wantSkip(t, short(l), x, time, must, ok)
		}
	}
}

// TestCursorsOfOneChunk: each goes on its own way.
func TestCursorsOfOneChunk(t *testing.T) {
	l := rough(20)
	c := slowChunk(l)
	x, y := gorilla.Open(c), gorilla.Open(c)
	for i := range 10 {
		wantNext(t, "the one", x, l[2*i], true)
		wantNext(t, "the one", x, l[2*i+1], true)
		wantNext(t, "the other one", y, l[i], true)
	}
	wantNone(t, "the one", x)
	wantSkip(t, "the other one", y, l[15].T, l[15], true)
}

// TestOpenOfChunksThatMayNotBe: behind all. (wantWrong asks so of all others, too.)
func TestOpenOfChunksThatMayNotBe(t *testing.T) {
	for _, c := range []api.Chunk{{}, {N: 1}, {N: -1}, {N: 65}, chunk(0, 0, 0, "00"), chunk(2, 0, 0, "00"), chunk(1, 1, 0, "00"), chunk(1, 0, 1, "00"), chunk(1, 0, 0, "000"), slowChunk(even(65))} {
		x := gorilla.Open(c)
		if x == nil {
			t.Fatalf("Open(%s): none", short(whole(c)))
		}
		wantNone(t, short(whole(c)), x)
	}
}

// TestNobodysCursor is the bracket: a cursor that Open did not give.
func TestNobodysCursor(t *testing.T) {
	var zero gorilla.Cursor
	var none *gorilla.Cursor
	for name, x := range map[string]*gorilla.Cursor{"nil": none, "the zero one": &zero, "a new one": new(gorilla.Cursor), "a literal": {}} {
		wantNone(t, name, x)
	}
}
