package samples_test

import (
	"fmt"
	"math"
	"slices"
	"testing"

	"windrose/api"
	"windrose/samples"
)

const (
	most = 64
	top  = 1 << 40
)

// row is samples of times and values by turns.
func row(l ...int) []api.Sample {
	var all []api.Sample
	for i := 0; i < len(l); i += 2 {
		all = append(all, api.Sample{T: l[i], V: l[i+1]})
	}
	return all
}

// even is so many samples of one value at one distance.
func even(n, first, distance, value int) []api.Sample {
	l := make([]api.Sample, n)
	for i := range l {
		l[i] = api.Sample{T: first + i*distance, V: value}
	}
	return l
}

// without is a list without the one at a place.
func without(l []api.Sample, at int) []api.Sample {
	return slices.Delete(slices.Clone(l), at, at+1)
}

// short is something as a text that is not too long.
func short(x any) string {
	s := fmt.Sprint(x)
	if len(s) > 300 {
		return s[:300] + ".."
	}
	return s
}

// slowMayBe is whether samples may be, by the words of layer 11's chapter: each pair of them is looked at.
func slowMayBe(l ...api.Sample) bool {
	if len(l) > most {
		return false
	}
	for i, s := range l {
		if s.T < 0 || s.T > top || s.V < -top || s.V > top {
			return false
		}
		for _, later := range l[i+1:] {
			if later.T <= s.T {
				return false
			}
		}
	}
	return true
}

// slowSort is samples by their times.
func slowSort(l []api.Sample) []api.Sample {
	l = slices.Clone(l)
	slices.SortFunc(l, func(a, b api.Sample) int { return a.T - b.T })
	return l
}

// slowPut is Put by the chapter's words, one error behind the other.
func slowPut(l []api.Sample, s api.Sample) ([]api.Sample, api.Errno) {
	if !slowMayBe(l...) {
		return nil, api.ErrArg
	}
	if !slowMayBe(s) {
		return l, api.ErrArg
	}
	if slices.Contains(l, s) {
		return l, api.ErrSame
	}
	for _, x := range l {
		if x.T == s.T {
			return l, api.ErrOther
		}
	}
	if len(l) == most {
		return l, api.ErrFull
	}
	return slowSort(append(slices.Clone(l), s)), api.OK
}

// slowGet is Get by the chapter's words.
func slowGet(l []api.Sample, t int) (api.Sample, bool) {
	for _, s := range l {
		if s.T == t && slowMayBe(l...) {
			return s, true
		}
	}
	return api.Sample{}, false
}

// slowRange is Range by the chapter's words.
func slowRange(l []api.Sample, from, to int) []api.Sample {
	var all []api.Sample
	for _, s := range slowTrim(l, from) {
		if s.T < to {
			all = append(all, s)
		}
	}
	return all
}

// slowTrim is Trim by the chapter's words.
func slowTrim(l []api.Sample, before int) []api.Sample {
	var all []api.Sample
	for _, s := range l {
		if s.T >= before && slowMayBe(l...) {
			all = append(all, s)
		}
	}
	return all
}

// slowMerge is Merge by the chapter's words, one error behind the other.
func slowMerge(a, b []api.Sample) ([]api.Sample, api.Errno) {
	if !slowMayBe(a...) || !slowMayBe(b...) {
		return nil, api.ErrArg
	}
	all := slices.Clone(a)
	for _, s := range b {
		for _, x := range a {
			if x.T == s.T && x.V != s.V {
				return nil, api.ErrOther
			}
		}
		if !slices.Contains(a, s) {
			all = append(all, s)
		}
	}
	if len(all) > most {
		return nil, api.ErrFull
	}
	return slowSort(all), api.OK
}

// wantPut holds Put against what it must tell.
func wantPut(t *testing.T, what string, l []api.Sample, s api.Sample, must []api.Sample, e api.Errno) {
	t.Helper()
	if got, f := samples.Put(l, s); f != e || !slices.Equal(got, must) {
		t.Errorf("%s: Put(%s, %v) = %s, %d, want %s, %d", what, short(l), s, short(got), f, short(must), e)
	}
}

// wantMerge holds Merge, both ways, against what it must tell.
func wantMerge(t *testing.T, what string, a, b, must []api.Sample, e api.Errno) {
	t.Helper()
	if got, f := samples.Merge(a, b); f != e || !slices.Equal(got, must) {
		t.Errorf("%s: Merge(%s, %s) = %s, %d, want %s, %d", what, short(a), short(b), short(got), f, short(must), e)
	}
	if got, f := samples.Merge(b, a); f != e || !slices.Equal(got, must) {
		t.Errorf("%s, turned round: Merge(%s, %s) = %s, %d, want %s, %d", what, short(b), short(a), short(got), f, short(must), e)
	}
}

// wantGet holds Get against what it must tell.
func wantGet(t *testing.T, what string, l []api.Sample, at int, must api.Sample, ok bool) {
	t.Helper()
	if got, is := samples.Get(l, at); is != ok || got != must {
		t.Errorf("%s: Get(%s, %d) = %v, %v, want %v, %v", what, short(l), at, got, is, must, ok)
	}
}

// wantRange holds Range against what it must tell.
func wantRange(t *testing.T, what string, l []api.Sample, from, to int, must []api.Sample) {
	t.Helper()
	if got := samples.Range(l, from, to); !slices.Equal(got, must) {
		t.Errorf("%s: Range(%s, %d, %d) = %s, want %s", what, short(l), from, to, short(got), short(must))
	}
}

// wantTrim holds Trim against what it must tell.
func wantTrim(t *testing.T, what string, l []api.Sample, before int, must []api.Sample) {
	t.Helper()
	if got := samples.Trim(l, before); !slices.Equal(got, must) {
		t.Errorf("%s: Trim(%s, %d) = %s, want %s", what, short(l), before, short(got), short(must))
	}
}

// holdPut holds Put against the slow one.
func holdPut(t *testing.T, what string, l []api.Sample, s api.Sample) {
	t.Helper()
	must, e := slowPut(l, s)
	wantPut(t, what, l, s, must, e)
}

// holdMerge holds Merge, both ways, against the slow one.
func holdMerge(t *testing.T, what string, a, b []api.Sample) api.Errno {
	t.Helper()
	must, e := slowMerge(a, b)
	wantMerge(t, what, a, b, must, e)
	return e
}

// holdTimes holds all that is asked by times against the slow ones, at each of these times, and between each two.
func holdTimes(t *testing.T, what string, l []api.Sample, times ...int) {
	t.Helper()
	for _, from := range times {
		must, ok := slowGet(l, from)
		wantGet(t, what, l, from, must, ok)
		wantTrim(t, what, l, from, slowTrim(l, from))
		for _, to := range times {
			wantRange(t, what, l, from, to, slowRange(l, from, to))
		}
	}
}

// edges are numbers at the ends of times, of values, and of an int.
func edges() []int {
	l := []int{0, 1, -1, 2, -2, 10, math.MaxInt, math.MinInt, math.MaxInt - 1, math.MinInt + 1}
	for _, bit := range []int{31, 32, 39, 40, 41, 62} {
		l = append(l, 1<<bit-1, 1<<bit, 1<<bit+1, -1<<bit-1, -1<<bit, -1<<bit+1)
	}
	return l
}

// wrong are lists of samples that may not be.
func wrong() [][]api.Sample {
	l := [][]api.Sample{
		row(-1, 0), row(top+1, 0), row(0, top+1), row(0, -top-1), row(math.MinInt, 0), row(math.MaxInt, 0), row(5, math.MinInt), row(5, math.MaxInt),
		row(5, 0, 5, 0), row(5, 0, 5, 1), row(6, 0, 5, 0), row(1, 0, 2, 0, 2, 0), row(3, 0, 2, 0, 1, 0), row(1, 0, 2, 0, 1, 0), row(-1, 0, 5, 1), row(5, 1, top+1, 0), row(5, 1, 6, top+1),
		even(most+1, 0, 1, 0), even(most+1, 5, 0, 0), even(most, 5, 0, 0), even(2*most, 0, 1, 0), even(1<<16, 0, 1, 0),
	}
	for _, at := range []int{0, 1, most / 2, most - 1} {
		time, value := even(most, 10, 10, 4), even(most, 10, 10, 4)
		time[at].T, value[at].V = -1, top+1
		l = append(l, time, value)
	}
	return l
}

// misfits are single samples that may not be.
func misfits() []api.Sample {
	return row(-1, 0, top+1, 0, 0, top+1, 0, -top-1, top, top+1, top, -top-1, -1, top+1, 5, math.MaxInt, 5, math.MinInt, math.MinInt, 5, math.MaxInt, 5)
}

// chance is a row of numbers without a pattern, the same in each run.
type chance uint64

func (c *chance) next() uint64 {
	x := uint64(*c)
	x ^= x << 13
	x ^= x >> 7
	x ^= x << 17
	*c = chance(x)
	return x
}

func (c *chance) below(n int) int { return int(c.next() >> 17 % uint64(n)) }

// one is one of a list.
func one[T any](c *chance, l ...T) T { return l[c.below(len(l))] }

// samples is some that may be, near to each other or far apart.
func (c *chance) samples() []api.Sample {
	n := one(c, 0, 1, 2, 3, 10, most/2, c.below(most+1), most-1, most)
	room := one(c, 2, 3, 4, 1000, top/most)
	l := make([]api.Sample, n)
	at := c.below(room)
	for i := range l {
		l[i] = api.Sample{T: at, V: one(c, 0, c.below(9)-4, top, -top)}
		at += 1 + c.below(room-1)
	}
	if n > 0 && c.below(3) == 0 {
		l[n-1].T = top
	}
	return l
}

// shuffled is a list in an order without a pattern.
func (c *chance) shuffled(l []api.Sample) []api.Sample {
	l = slices.Clone(l)
	for i := range l {
		j := c.below(i + 1)
		l[i], l[j] = l[j], l[i]
	}
	return l
}

// parts are two lists of what is in one, each of it in at least one of them.
func (c *chance) parts(l []api.Sample) (a, b []api.Sample) {
	for _, s := range l {
		way := c.below(3)
		if way != 0 {
			a = append(a, s)
		}
		if way != 1 {
			b = append(b, s)
		}
	}
	return a, b
}
