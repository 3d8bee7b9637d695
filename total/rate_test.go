package total_test

import (
	"testing"

	"windrose/api"
)

// wantRate holds a rate against what it must be.
func wantRate(t *testing.T, what string, l []api.Sample, must int) {
	t.Helper()
	wantOf(t, what, api.TotalRate, l, must)
}

func TestRateOfFewerThanTwo(t *testing.T) {
	wantRate(t, "of none", nil, none)
	wantRate(t, "of none", []api.Sample{}, none)
	for _, v := range []int{0, 1, -1, 60, top, -top} {
		wantRate(t, "of one", row(0, v), none)
		wantRate(t, "of one", row(60, v), none)
		wantRate(t, "of one", row(top, v), none)
		wantRate(t, "of two", row(0, v, 60, v), 0)
	}
}

func TestRateRises(t *testing.T) {
	wantRate(t, "from 0", row(0, 0, 60, 7), 7)
	wantRate(t, "from above 0", row(0, 3, 60, 10), 7)
	wantRate(t, "from below 0 to above", row(0, -10, 60, 5), 15)
	wantRate(t, "from below 0 to 0", row(0, -10, 60, 0), 10)
	wantRate(t, "from below 0 to below 0", row(0, -10, 60, -4), 6)
	wantRate(t, "step by step", row(0, -10, 20, -4, 40, 0, 60, 9), 19)
	wantRate(t, "not from time 0 on", row(600, 3, 660, 10), 7)
	wantRate(t, "and stands still", row(0, 3, 30, 3, 60, 10), 7)
	wantRate(t, "at a distance that is not even", row(0, 0, 1, 5, 60, 7), 7)
}

func TestRateFalls(t *testing.T) {
	wantRate(t, "to above 0", row(0, 10, 60, 4), 4)
	wantRate(t, "to one less", row(0, 10, 60, 9), 9)
	wantRate(t, "to 1", row(0, 10, 60, 1), 1)
	wantRate(t, "to 0", row(0, 10, 60, 0), 0)
	wantRate(t, "to -1", row(0, 10, 60, -1), 0)
	wantRate(t, "to below 0", row(0, 10, 60, -4), 0)
	wantRate(t, "from 0 to below 0", row(0, 0, 60, -4), 0)
	wantRate(t, "from below 0 to below 0", row(0, -3, 60, -4), 0)
	wantRate(t, "and rises again from above 0", row(0, 10, 30, 4, 60, 6), 6)
	wantRate(t, "and rises again from 0", row(0, 10, 30, 0, 60, 6), 6)
	wantRate(t, "and rises again from below 0", row(0, 10, 30, -4, 60, 6), 10)
	wantRate(t, "step by step", row(0, 10, 20, 7, 40, 3, 60, -2), 10)
	wantRate(t, "behind a rise", row(0, 1, 30, 9, 60, -5), 8)
	wantRate(t, "twice", row(0, 5, 15, 2, 30, 8, 45, 3, 60, 4), 2+6+3+1)
}

// What is behind the point falls once, of the whole.
func TestRateBehindThePoint(t *testing.T) {
	wantRate(t, "60 by 7", row(0, 0, 7, 1), 8)
	wantRate(t, "180 by 7", row(0, 0, 7, 3), 25)
	wantRate(t, "60 by 31", row(0, 0, 31, 1), 1)
	wantRate(t, "60 by 59", row(0, 0, 59, 1), 1)
	wantRate(t, "60 by 60", row(0, 0, 60, 1), 1)
	wantRate(t, "60 by 61", row(0, 0, 61, 1), 0)
	wantRate(t, "60 by 120", row(0, 0, 120, 1), 0)
	wantRate(t, "119 of 120", row(0, 0, 7140, 118), 0)
	wantRate(t, "one step by step", row(0, 0, 1, 1, 7, 2), 17)
	wantRate(t, "from below 0", row(0, -1, 7, 0), 8)
	wantRate(t, "of a fall", row(0, 9, 7, 1), 8)
}

func TestRateNearAndFar(t *testing.T) {
	for _, first := range []int{0, 5, 59, top - 1} {
		wantRate(t, "one apart", row(first, 0, first+1, 1), 60)
		wantRate(t, "one apart, alike", row(first, 9, first+1, 9), 0)
		wantRate(t, "one apart, the greatest rise", row(first, -top, first+1, top), 120*top)
		wantRate(t, "one apart, the greatest fall", row(first, top, first+1, -top), 0)
		wantRate(t, "one apart, the least fall", row(first, top, first+1, top-1), 60*(top-1))
	}
	wantRate(t, "as far apart as may be", row(0, 0, top, top), 60)
	wantRate(t, "as far apart as may be, the greatest rise", row(0, -top, top, top), 120)
	wantRate(t, "as far apart as may be, the greatest fall", row(0, top, top, -top), 0)
	wantRate(t, "as far apart as may be, one more", row(0, 0, top, 1), 0)
	wantRate(t, "as far apart as may be, just not 1", row(0, 0, top, top/60), 0)
	wantRate(t, "as far apart as may be, just 1", row(0, 0, top, top/60+1), 1)
	wantRate(t, "as far apart as may be, with one between", row(0, 0, 1, top, top, top-1), 119)
}

// The first and the last time count, not those between, and not how many there are.
func TestRateByTheWholeTime(t *testing.T) {
	for at := 1; at < 600; at++ {
		wantRate(t, "a time between", row(0, 0, at, 20, 600, 50), 5)
	}
	for n := 2; n <= most; n++ {
		wantRate(t, "so many", slope(n, 17, 30, -50, 4), 8)
	}
}
