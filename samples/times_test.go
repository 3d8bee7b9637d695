package samples_test

import (
	"fmt"
	"math"
	"testing"

	"windrose/api"
)

func TestGetKnown(t *testing.T) {
	three := row(10, 1, 20, -2, 30, top)
	for _, c := range []struct {
		what string
		l    []api.Sample
		t    int
		must api.Sample
		ok   bool
	}{
		{"of nil", nil, 0, api.Sample{}, false},
		{"of the empty list", []api.Sample{}, 5, api.Sample{}, false},
		{"of one", row(5, 7), 5, api.Sample{T: 5, V: 7}, true},
		{"of one, all noughts", row(0, 0), 0, api.Sample{}, true},
		{"of one, just ahead", row(5, 7), 4, api.Sample{}, false},
		{"of one, just behind", row(5, 7), 6, api.Sample{}, false},
		{"the first", three, 10, api.Sample{T: 10, V: 1}, true},
		{"between", three, 20, api.Sample{T: 20, V: -2}, true},
		{"the last", three, 30, api.Sample{T: 30, V: top}, true},
		{"ahead of all", three, 9, api.Sample{}, false},
		{"far ahead of all", three, 0, api.Sample{}, false},
		{"between two", three, 15, api.Sample{}, false},
		{"just behind one", three, 11, api.Sample{}, false},
		{"just ahead of one", three, 29, api.Sample{}, false},
		{"behind all", three, 31, api.Sample{}, false},
		{"far behind all", three, top, api.Sample{}, false},
		{"below 0", three, -1, api.Sample{}, false},
		{"behind the greatest time", three, top + 1, api.Sample{}, false},
		{"at the greatest time", row(0, 1, top, 2), top, api.Sample{T: top, V: 2}, true},
		{"at the least int", three, math.MinInt, api.Sample{}, false},
		{"at the greatest int", three, math.MaxInt, api.Sample{}, false},
	} {
		wantGet(t, c.what, c.l, c.t, c.must, c.ok)
	}
}

func TestRangeKnown(t *testing.T) {
	three := row(10, 1, 20, -2, 30, top)
	for _, c := range []struct {
		what     string
		l        []api.Sample
		from, to int
		must     []api.Sample
	}{
		{"of nil", nil, 0, 100, nil},
		{"of the empty list", []api.Sample{}, 0, 100, nil},
		{"of one", row(5, 7), 5, 6, row(5, 7)},
		{"of one, alike", row(5, 7), 5, 5, nil},
		{"of one, ahead", row(5, 7), 0, 5, nil},
		{"of one, behind", row(5, 7), 6, 7, nil},
		{"all", three, 0, 31, three},
		{"at the first, and behind the last", three, 10, 31, three},
		{"at the first, and at the last", three, 10, 30, row(10, 1, 20, -2)},
		{"behind the first", three, 11, 31, row(20, -2, 30, top)},
		{"from one to the next", three, 10, 20, row(10, 1)},
		{"just that one", three, 20, 21, row(20, -2)},
		{"between two", three, 11, 20, nil},
		{"round one", three, 15, 25, row(20, -2)},
		{"alike, at a sample", three, 20, 20, nil},
		{"alike, between two", three, 15, 15, nil},
		{"ahead of all", three, 0, 10, nil},
		{"behind all", three, 31, 99, nil},
		{"turned round", three, 31, 0, nil},
		{"turned round, at samples", three, 30, 10, nil},
		{"turned round, between two", three, 19, 11, nil},
		{"turned round at the edges of int", three, math.MaxInt, math.MinInt, nil},
		{"from edge to edge of int", three, math.MinInt, math.MaxInt, three},
		{"from the least int on", three, math.MinInt, 20, row(10, 1)},
		{"to the greatest int", three, 20, math.MaxInt, row(20, -2, 30, top)},
		{"alike at the least int", three, math.MinInt, math.MinInt, nil},
		{"alike at the greatest int", three, math.MaxInt, math.MaxInt, nil},
		{"from 0 to the greatest time", row(0, 1, top, 2), 0, top, row(0, 1)},
		{"the greatest time too", row(0, 1, top, 2), 0, top + 1, row(0, 1, top, 2)},
		{"from below 0 to 0", row(0, 1, top, 2), -1, 0, nil},
	} {
		wantRange(t, c.what, c.l, c.from, c.to, c.must)
	}
}

func TestTrimKnown(t *testing.T) {
	three := row(10, 1, 20, -2, 30, top)
	for _, c := range []struct {
		what   string
		l      []api.Sample
		before int
		must   []api.Sample
	}{
		{"of nil", nil, 0, nil},
		{"of the empty list", []api.Sample{}, 9, nil},
		{"of one, at it", row(5, 7), 5, row(5, 7)},
		{"of one, ahead", row(5, 7), 4, row(5, 7)},
		{"of one, behind", row(5, 7), 6, nil},
		{"ahead of all", three, 0, three},
		{"just ahead of all", three, 9, three},
		{"at the first", three, 10, three},
		{"behind the first", three, 11, row(20, -2, 30, top)},
		{"at one between", three, 20, row(20, -2, 30, top)},
		{"between two", three, 25, row(30, top)},
		{"at the last", three, 30, row(30, top)},
		{"behind all", three, 31, nil},
		{"below 0", three, -1, three},
		{"at the greatest time", row(0, 1, top, 2), top, row(top, 2)},
		{"behind the greatest time", row(0, 1, top, 2), top + 1, nil},
		{"at the least int", three, math.MinInt, three},
		{"at the greatest int", three, math.MaxInt, nil},
	} {
		wantTrim(t, c.what, c.l, c.before, c.must)
	}
}

// Of so many samples each pair of bounds, at them and between them, is as the slow reckoning says.
func TestTimesOfSoMany(t *testing.T) {
	for _, n := range []int{0, 1, 2, 3, 7, most - 1, most} {
		var times []int
		for at := range 2*n + 4 {
			times = append(times, at-1)
		}
		holdTimes(t, fmt.Sprint("of ", n), even(n, 1, 2, -n), times...)
	}
}

func TestTimesAtEdges(t *testing.T) {
	times := edges()
	for _, l := range [][]api.Sample{nil, row(0, 0), row(top, 1), row(0, 1, top, 2), row(1<<31, 1, 1<<32, 2), even(most, 0, top/most, 5)} {
		holdTimes(t, "at edges", l, times...)
	}
}

// Of samples that may not be there is nothing at any time.
func TestTimesOfWrong(t *testing.T) {
	for _, l := range wrong() {
		times := []int{0, -1, 5, 6, 100, top, top + 1, math.MinInt, math.MaxInt, l[0].T, l[len(l)-1].T}
		for _, from := range times {
			wantGet(t, "may not be", l, from, api.Sample{}, false)
			wantTrim(t, "may not be", l, from, nil)
			for _, to := range times {
				wantRange(t, "may not be", l, from, to, nil)
			}
		}
	}
}

func TestTimesDrawn(t *testing.T) {
	c := chance(512)
	for range 600 {
		l := c.samples()
		times := []int{0, top, top + 1, c.below(top), c.below(100)}
		for range 8 {
			if len(l) > 0 {
				times = append(times, l[c.below(len(l))].T+c.below(3)-1)
			}
		}
		holdTimes(t, "drawn", l, times...)
		if t.Failed() {
			return
		}
	}
}
