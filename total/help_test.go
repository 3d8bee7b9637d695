package total_test

import (
	"fmt"
	"math"
	"math/big"
	"slices"
	"testing"

	"windrose/api"
	"windrose/total"
)

const (
	most = 64
	top  = 1 << 40
	far  = 1 << 53
	// none stands in a table for a total that there is not.
	none = math.MinInt
)

// row is samples of times and values by turns.
func row(l ...int) []api.Sample {
	var all []api.Sample
	for i := 0; i < len(l); i += 2 {
		all = append(all, api.Sample{T: l[i], V: l[i+1]})
	}
	return all
}

// even is so many samples of one value at one distance.
func even(n, first, distance, value int) []api.Sample {
	return slope(n, first, distance, value, 0)
}

// slope is so many samples at one distance, each value by so much more than the one ahead of it.
func slope(n, first, distance, value, more int) []api.Sample {
	l := make([]api.Sample, n)
	for i := range l {
		l[i] = api.Sample{T: first + i*distance, V: value + i*more}
	}
	return l
}

// turns is so many samples one apart in time, of two values by turns.
func turns(n, first, second int) []api.Sample {
	l := even(n, 0, 1, first)
	for i := 1; i < n; i += 2 {
		l[i].V = second
	}
	return l
}

// kinds are all kinds of totals.
func kinds() []int {
	return []int{api.TotalSum, api.TotalMin, api.TotalMax, api.TotalCount, api.TotalRate}
}

// folded are the kinds of which parts are folded.
func folded() []int {
	return []int{api.TotalSum, api.TotalMin, api.TotalMax, api.TotalCount}
}

// noKinds are numbers that are no kinds of totals: behind both ends of them, like one of them in their lowest bits, and at the edges of an int.
func noKinds() []int {
	l := []int{0, api.TotalKinds, api.TotalKinds + 1, 100, 1 << 31, 1 << 32, math.MaxInt, math.MaxInt - 1, math.MinInt, math.MinInt + 1}
	for _, kind := range kinds() {
		l = append(l, -kind, kind+1<<8, kind+1<<16, kind+1<<32, math.MinInt+kind)
	}
	return l
}

// short is something as a text that is not too long.
func short(x any) string {
	s := fmt.Sprint(x)
	if len(s) > 300 {
		return s[:300] + ".."
	}
	return s
}

// slowMayBe is whether samples may be, by the words of layer 11's chapter: each pair of them is looked at.
func slowMayBe(l []api.Sample) bool {
	if len(l) > most {
		return false
	}
	for i, s := range l {
		if s.T < 0 || s.T > top || s.V < -top || s.V > top {
			return false
		}
		for _, later := range l[i+1:] {
			if later.T <= s.T {
				return false
			}
		}
	}
	return true
}

// slowOf is Of by the chapter's words.
func slowOf(kind int, l []api.Sample) (int, bool) {
	if !slowMayBe(l) {
		return 0, false
	}
	var values []int
	for _, s := range l {
		values = append(values, s.V)
	}
	rising := slices.Sorted(slices.Values(values))
	switch {
	case kind == api.TotalSum:
		return slowSum(values...), true
	case kind == api.TotalCount:
		return len(values), true
	case kind == api.TotalMin && len(l) > 0:
		return rising[0], true
	case kind == api.TotalMax && len(l) > 0:
		return rising[len(rising)-1], true
	case kind == api.TotalRate && len(l) >= 2:
		return slowRate(l), true
	}
	return 0, false
}

// slowSum is a sum in big numbers; one that is no int is a fault of the test.
func slowSum(values ...int) int {
	all := new(big.Int)
	for _, v := range values {
		all.Add(all, big.NewInt(int64(v)))
	}
	if !all.IsInt64() {
		panic("a sum that is no int")
	}
	return int(all.Int64())
}

// slowRate is a rate in big numbers: the steps first, each by itself, and at the end the one division.
func slowRate(l []api.Sample) int {
	all := new(big.Int)
	for i := range l[1:] {
		was, is := l[i].V, l[i+1].V
		switch {
		case is > was:
			all.Add(all, new(big.Int).Sub(big.NewInt(int64(is)), big.NewInt(int64(was))))
		case is < was && is > 0:
			all.Add(all, big.NewInt(int64(is)))
		}
	}
	all.Mul(all, big.NewInt(60))
	long := big.NewInt(int64(l[len(l)-1].T - l[0].T))
	return int(all.Quo(all, long).Int64())
}

// slowFold is Fold by the chapter's words.
func slowFold(kind, a, b int) (int, bool) {
	for _, x := range []int{a, b} {
		if x < -far || x > far {
			return 0, false
		}
	}
	both := []int{a, b}
	switch kind {
	case api.TotalSum, api.TotalCount:
		return slowSum(both...), true
	case api.TotalMin:
		return slices.Min(both), true
	case api.TotalMax:
		return slices.Max(both), true
	}
	return 0, false
}

// wantOf holds Of against what it must tell; none: false, and 0.
func wantOf(t *testing.T, what string, kind int, l []api.Sample, must int) {
	t.Helper()
	ok := must != none
	if !ok {
		must = 0
	}
	if got, is := total.Of(kind, l); is != ok || got != must {
		t.Errorf("%s: Of(%d, %s) = %d, %v, want %d, %v", what, kind, short(l), got, is, must, ok)
	}
}

// wantFold holds Fold, both ways, against what it must tell; none: false, and 0.
func wantFold(t *testing.T, what string, kind, a, b, must int) {
	t.Helper()
	ok := must != none
	if !ok {
		must = 0
	}
	for range 2 {
		if got, is := total.Fold(kind, a, b); is != ok || got != must {
			t.Errorf("%s: Fold(%d, %d, %d) = %d, %v, want %d, %v", what, kind, a, b, got, is, must, ok)
		}
		a, b = b, a
	}
}

// holdOf holds Of of all kinds against the slow one.
func holdOf(t *testing.T, what string, l []api.Sample) {
	t.Helper()
	for _, kind := range kinds() {
		must, ok := slowOf(kind, l)
		if !ok {
			must = none
		}
		wantOf(t, what, kind, l, must)
	}
}

// edges are numbers at the ends of times, of values, of what is folded, and of an int.
func edges() []int {
	l := []int{0, 1, -1, 2, -2, 10, math.MaxInt, math.MinInt, math.MaxInt - 1, math.MinInt + 1}
	for _, bit := range []int{31, 32, 39, 40, 41, 46, 52, 53, 54, 61, 62} {
		l = append(l, 1<<bit-1, 1<<bit, 1<<bit+1, -1<<bit-1, -1<<bit, -1<<bit+1)
	}
	return l
}

// wrong are lists of samples that may not be.
func wrong() [][]api.Sample {
	l := [][]api.Sample{
		row(-1, 0), row(top+1, 0), row(0, top+1), row(0, -top-1), row(math.MinInt, 0), row(math.MaxInt, 0), row(5, math.MinInt), row(5, math.MaxInt),
		row(5, 0, 5, 0), row(5, 0, 5, 1), row(6, 0, 5, 0), row(1, 0, 2, 0, 2, 0), row(3, 0, 2, 0, 1, 0), row(1, 0, 2, 0, 1, 0), row(2, 0, 1, 0, 3, 0), row(0, 0, 0, 0), row(top, 0, top, 0),
		row(-1, 0, 5, 1), row(5, 1, top+1, 0), row(5, 1, 6, top+1), row(5, -top-1, 6, 1), row(math.MinInt, 0, math.MaxInt, 0), row(math.MaxInt, 0, math.MinInt, 0), row(0, math.MinInt, 1, math.MaxInt),
		even(most+1, 0, 1, 0), even(most+1, 5, 0, 0), even(most, 5, 0, 0), even(most+1, 0, 1, top), even(most+1, 0, 1, -top), slope(most+1, 0, 1, 0, 1), even(2*most, 0, 1, 0), even(1<<16, 0, 1, 0),
	}
	for at := range most {
		for _, turn := range []func(s *api.Sample){
			func(s *api.Sample) { s.T = -1 },
			func(s *api.Sample) { s.T = top + 1 },
			func(s *api.Sample) { s.V = top + 1 },
			func(s *api.Sample) { s.V = -top - 1 },
		} {
			one := slope(most, 10, 10, 4, 4)
			turn(&one[at])
			l = append(l, one)
		}
		if at > 0 {
			twice, fallen := slope(most, 10, 10, 4, 4), slope(most, 10, 10, 4, 4)
			twice[at].T = twice[at-1].T
			fallen[at].T = fallen[at-1].T - 1
			l = append(l, twice, fallen)
		}
	}
	return l
}

// chance is a row of numbers without a pattern, the same in each run.
type chance uint64

func (c *chance) next() uint64 {
	x := uint64(*c)
	x ^= x << 13
	x ^= x >> 7
	x ^= x << 17
	*c = chance(x)
	return x
}

func (c *chance) below(n int) int { return int(c.next() >> 17 % uint64(n)) }

// one is one of a list.
func one[T any](c *chance, l ...T) T { return l[c.below(len(l))] }

// value is one that may be: any, a small one, or one at an end.
func (c *chance) value() int {
	return one(c, c.below(2*top+1)-top, c.below(9)-4, c.below(1000), top, -top)
}

// samples is some that may be, near to each other or far apart.
func (c *chance) samples() []api.Sample {
	n := one(c, 0, 1, 2, 3, 4, 10, c.below(most+1), most-1, most)
	room := one(c, 2, 3, 4, 1000, top/most)
	l := make([]api.Sample, n)
	at := c.below(room)
	for i := range l {
		l[i] = api.Sample{T: at, V: c.value()}
		at += 1 + c.below(room-1)
	}
	if n > 0 && c.below(3) == 0 {
		l[n-1].T = top
	}
	return l
}

// parts is a list's samples in two lists, each of them in one.
func (c *chance) parts(l []api.Sample) (a, b []api.Sample) {
	for _, s := range l {
		if c.below(2) == 0 {
			a = append(a, s)
		} else {
			b = append(b, s)
		}
	}
	return a, b
}
