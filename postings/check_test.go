package postings_test

import (
	"slices"
	"testing"

	"windrose/api"
	"windrose/postings"
)

// TestCheck: lists that may be, and such as may not.
func TestCheck(t *testing.T) {
	for _, l := range rights() {
		if e := postings.Check(l); e != api.OK {
			t.Errorf("Check(%s): error %d", short(l), e)
		}
	}
	for _, l := range wrongs() {
		if e := postings.Check(l); e != api.ErrArg {
			t.Errorf("Check(%s): error %d, want 1", short(l), e)
		}
	}
}

// TestCheckAtEachPlace: of as many as may be one is turned, at each place.
func TestCheckAtEachPlace(t *testing.T) {
	l := steps(0, 2, most)
	for i := range l {
		for _, n := range []int{l[i] - 2, l[i] - 1, l[i] + 1, l[i] + 2, -1, -2, top, top + 1} {
			was := l[i]
			l[i] = n
			must := api.ErrArg
			if slowMay(l) {
				must = api.OK
			}
			if e := postings.Check(l); e != must {
				t.Fatalf("%d at place %d: error %d, want %d", n, i, e, must)
			}
			l[i] = was
		}
	}
}

// TestCheckOfHowMany: none, one, and so on, up to more than may be.
func TestCheckOfHowMany(t *testing.T) {
	for n := range 2 * most {
		must := api.OK
		if n > most {
			must = api.ErrArg
		}
		for _, by := range []int{1, 1000} {
			if e := postings.Check(steps(3, by, n)); e != must {
				t.Fatalf("%d numbers: error %d, want %d", n, e, must)
			}
		}
	}
}

// TestCheckOfFew: all rows of up to four numbers from -1 to 4.
func TestCheckOfFew(t *testing.T) {
	few([]int{-1, 0, 1, 2, 3, 4}, 4, func(l []int) {
		must := api.OK
		if !slowMay(l) {
			must = api.ErrArg
		}
		if e := postings.Check(l); e != must {
			t.Errorf("Check(%v): error %d, want %d", l, e, must)
		}
	})
}

// few calls with all rows of so many of these numbers at most.
func few(of []int, n int, call func(l []int)) {
	var more func(l []int)
	more = func(l []int) {
		call(l)
		if len(l) == n {
			return
		}
		for _, m := range of {
			more(append(l[:len(l):len(l)], m))
		}
	}
	more(nil)
}

// wantPlace holds Has and Rank of a number, of a list that may be, against the slow reckoning.
func wantPlace(t *testing.T, l []int, n int) {
	t.Helper()
	if got, must := postings.Has(l, n), slices.Contains(l, n); got != must {
		t.Errorf("Has(%s, %d): %v, want %v", short(l), n, got, must)
	}
	if got, must := postings.Rank(l, n), slowRank(l, n); got != must {
		t.Errorf("Rank(%s, %d): %d, want %d", short(l), n, got, must)
	}
}

func TestHasAndRankKnown(t *testing.T) {
	l := []int{0, 5, 6, 9, top}
	for _, c := range []struct {
		n, rank int
		has     bool
	}{
		{-1, 0, false}, {0, 0, true}, {1, 1, false}, {4, 1, false}, {5, 1, true}, {6, 2, true}, {7, 3, false}, {8, 3, false}, {9, 3, true}, {10, 4, false}, {top - 1, 4, false}, {top, 4, true}, {top + 1, 5, false}, {1 << 62, 5, false}, {-1 << 63, 0, false}, {1<<63 - 1, 5, false}, {1<<32 + 5, 5, false}, {-5, 0, false},
	} {
		if has, rank := postings.Has(l, c.n), postings.Rank(l, c.n); has != c.has || rank != c.rank {
			t.Errorf("%d: %v, %d, want %v, %d", c.n, has, rank, c.has, c.rank)
		}
	}
}

// TestHasAndRank: each number, those beside, and the edges; of lists that may not be nothing is there, and none is below.
func TestHasAndRank(t *testing.T) {
	for _, l := range rights() {
		for _, n := range beside(l) {
			wantPlace(t, l, n)
		}
	}
	for _, l := range wrongs() {
		for _, n := range append(beside(l[:min(len(l), 3)]), beside(l[max(0, len(l)-2):])...) {
			if postings.Has(l, n) || postings.Rank(l, n) != 0 {
				t.Fatalf("%s, %d: %v, %d", short(l), n, postings.Has(l, n), postings.Rank(l, n))
			}
		}
	}
}
