package tap_test

import (
	"math"
	"slices"
	"testing"

	"windrose/api"
	"windrose/tap"
)

// spoil turns all of a list, and the room behind its end.
func spoil(l []int) {
	for i := range l[:cap(l)] {
		l[:cap(l)][i] = -77777
	}
}

// What Counts tells shares no memory with the tap: it is spoilt, and the tap is as it was.
func TestCountsIsNewMemory(t *testing.T) {
	for pipes := 1; pipes <= mostPipes; pipes++ {
		for _, count := range []int{0, 1, 3} {
			held, other := made(t, pipes, 3), made(t, pipes, 3)
			for _, p := range []*tap.Tap{held, other} {
				turnTo(t, p, pipes/2)
				hold(t, p, alike(pipes, count)...)
			}
			first, second := held.Counts(), held.Counts()
			spoil(first)
			if !slices.Equal(second, alike(pipes, count)) {
				t.Errorf("two Counts share memory: %v", second)
			}
			spoil(append(second, 1, 2, 3))
			wantCounts(t, "spoilt", held, alike(pipes, count)...)
			if got, must := all(held), all(other); got != must {
				t.Errorf("%d pipes: %s where Counts was spoilt, want %s", pipes, got, must)
			}
		}
	}
}

// What Counts told stays, whatever is done to the tap behind it.
func TestCountsStays(t *testing.T) {
	p := made(t, 3, 2)
	hold(t, p, 1, 2, 0)
	l := p.Counts()
	room := slices.Clone(l[:cap(l)])
	put(t, p, 0, 5)
	p.Spread(6)
	p.Next()
	p.Take(1)
	p.Counts()
	if !slices.Equal(l[:cap(l)], room) || !slices.Equal(l, []int{1, 2, 0}) {
		t.Errorf("what Counts told has changed: %v, and behind its end %v", l, l[:cap(l)])
	}
}

// Two taps have nothing in common.
func TestTwoTaps(t *testing.T) {
	a, b := made(t, 2, 2), made(t, 2, 2)
	hold(t, a, 2, 2)
	wantCounts(t, "the other one", b, 0, 0)
	wantNextNone(t, "the other one", b)
	wantSpread(t, "the other one", b, 9, 0)
	wantNext(t, "the one", a, 0, mark(0, 0))
	wantNext(t, "the other one", b, 0, 9)
	put(t, b, 0, 8)
	put(t, b, 1, 7)
	wantNext(t, "the other one's turn is its own", b, 1, 7)
	wantNext(t, "the one's turn is its own", a, 1, mark(1, 0))
	wantCounts(t, "the one", a, 1, 1)
	wantCounts(t, "the other one", b, 1, 0)
}

// The bracket: a tap that New did not give has no pipes, before and behind all calls on it.
func TestNobodysTap(t *testing.T) {
	var zero tap.Tap
	refused, _ := tap.New(0, 1)
	for name, p := range map[string]*tap.Tap{"nil": nil, "the zero one": &zero, "a new one": new(tap.Tap), "a literal": {}, "what New refused": refused} {
		for range 3 {
			for _, pipe := range append(noPipes(mostPipes), 0, 1, 2, 7, 8) {
				for _, n := range []int{0, 5, -1, math.MaxInt, math.MinInt} {
					wantPut(t, name, p, pipe, n, api.ErrArg)
				}
				wantTakeError(t, name, p, pipe, api.ErrArg)
			}
			wantNextNone(t, name, p)
			for _, n := range anyNumbers() {
				wantSpreadFull(t, name, p, n)
			}
			if l := p.Counts(); len(l) != 0 {
				t.Errorf("%s: Counts %v", name, l)
			}
		}
	}
}
