package postings_test

import (
	"math"
	"testing"

	"windrose/postings"
)

func TestWalker(t *testing.T) {
	l := []int{3, 5, 6, 9, 20, 21, 40}
	w := postings.Walk(l)
	wantAt(t, "at first", w, l)
	wantAt(t, "asked again", w, l)
	wantSeek(t, "below 0", w, -1, l)
	wantSeek(t, "below all", w, 0, l)
	wantSeek(t, "where it stands", w, 3, l)
	wantNext(t, "on", w, l[1:])
	wantSeek(t, "passed already", w, 3, l[1:])
	wantSeek(t, "far below", w, math.MinInt, l[1:])
	wantSeek(t, "where it stands", w, 5, l[1:])
	wantSeek(t, "the next one", w, 6, l[2:])
	wantSeek(t, "between", w, 10, l[4:])
	wantSeek(t, "passed already", w, 9, l[4:])
	wantNext(t, "on", w, l[5:])
	wantNext(t, "to the last one", w, l[6:])
	wantSeek(t, "the last one", w, 40, l[6:])
	wantNext(t, "behind all", w, nil)
	wantBehind(t, "behind all", w)
}

// TestSeekOfAllPlaces: from each number to each one, to those beside, and to the edges.
func TestSeekOfAllPlaces(t *testing.T) {
	for _, l := range rights() {
		if len(l) > 60 {
			continue
		}
		for from := range len(l) + 1 {
			for _, n := range beside(l) {
				w := postings.Walk(l)
				for range from {
					w.Next()
				}
				wantSeek(t, short(l), w, n, slowLeft(l[from:], n))
			}
		}
	}
}

// TestWalkOfAll: step by step, to the end, and behind it.
func TestWalkOfAll(t *testing.T) {
	for _, l := range rights() {
		w := postings.Walk(l)
		wantAt(t, short(l), w, l)
		for i := range l {
			wantNext(t, short(l), w, l[i+1:])
		}
		wantBehind(t, short(l), w)
	}
}

// TestSeekBehindAll: at once.
func TestSeekBehindAll(t *testing.T) {
	for _, l := range rights() {
		if len(l) == 0 {
			continue
		}
		last := l[len(l)-1]
		for _, n := range []int{last + 1, top + 1, math.MaxInt} {
			w := postings.Walk(l)
			wantSeek(t, short(l), w, n, nil)
			wantBehind(t, short(l), w)
		}
		w := postings.Walk(l)
		wantSeek(t, short(l), w, last, l[len(l)-1:])
		wantNext(t, short(l), w, nil)
		wantBehind(t, short(l), w)
	}
}

// TestDrawnWalks: seeks and steps by turns.
func TestDrawnWalks(t *testing.T) {
	c := chance(88675123)
	for range 500 {
		l := c.list(c.below(100), one(&c, 150, 1000, top))
		w, left := postings.Walk(l), l
		for range 30 {
			if c.below(2) == 0 {
				left = left[min(1, len(left)):]
				wantNext(t, short(l), w, left)
				continue
			}
			n := one(&c, edges()...)
			if len(l) > 0 {
				n = one(&c, n, one(&c, l...), one(&c, l...)+one(&c, 1, -1))
			}
			if len(left) > 0 {
				n = one(&c, n, left[0]+c.below(30), left[min(len(left)-1, c.below(8))])
			}
			left = slowLeft(left, n)
			wantSeek(t, short(l), w, n, left)
		}
	}
}

// TestWalkersAreApart: two of one list, and a copy of one.
func TestWalkersAreApart(t *testing.T) {
	l := []int{1, 4, 9}
	a, b := postings.Walk(l), postings.Walk(l)
	wantNext(t, "the one", a, l[1:])
	wantAt(t, "the other one", b, l)
	c := *a
	wantSeek(t, "the one", a, 9, l[2:])
	wantNext(t, "a copy", &c, l[2:])
	wantNext(t, "a copy", &c, nil)
	wantAt(t, "the one", a, l[2:])
	wantNext(t, "the other one", b, l[1:])
}

// TestWalkOfWrongs: over lists that may not be a walker stands behind all.
func TestWalkOfWrongs(t *testing.T) {
	for _, l := range append(wrongs(), nil, []int{}) {
		w := postings.Walk(l)
		if w == nil {
			t.Fatalf("Walk(%s): no walker", short(l))
		}
		wantBehind(t, short(l), w)
	}
}

// TestNobodysWalker: nil, and one that Walk did not give.
func TestNobodysWalker(t *testing.T) {
	wantBehind(t, "nil", nil)
	wantBehind(t, "the zero one", &postings.Walker{})
	wantBehind(t, "a new one", new(postings.Walker))
	for _, n := range edges() {
		wantSeek(t, "nil", nil, n, nil)
		wantSeek(t, "a new one", new(postings.Walker), n, nil)
	}
	wantNext(t, "nil", nil, nil)
	wantNext(t, "a new one", new(postings.Walker), nil)
}
