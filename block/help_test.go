package block_test

import (
	"fmt"
	"math"
	"math/big"
	"slices"
	"testing"

	"windrose/api"
	"windrose/block"
)

const (
	most = 64
	top  = 1 << 40
)

// row is samples of times and values by turns.
func row(l ...int) []api.Sample {
	var all []api.Sample
	for i := 0; i < len(l); i += 2 {
		all = append(all, api.Sample{T: l[i], V: l[i+1]})
	}
	return all
}

// even is so many samples of one value at one distance.
func even(n, first, distance, value int) []api.Sample {
	l := make([]api.Sample, n)
	for i := range l {
		l[i] = api.Sample{T: first + i*distance, V: value}
	}
	return l
}

// data is numbers without texts.
func data(nums ...int) api.Data { return api.Data{Nums: nums} }

// blank tells whether data are the zero ones.
func blank(d api.Data) bool { return len(d.Nums) == 0 && len(d.Texts) == 0 }

// short is something as a text that is not too long.
func short(x any) string {
	s := fmt.Sprint(x)
	if len(s) > 300 {
		return s[:300] + ".."
	}
	return s
}

// slowMayBe is whether samples may be, by the chapter's words: each pair of them is looked at.
func slowMayBe(l []api.Sample) bool {
	if len(l) > most {
		return false
	}
	for i, s := range l {
		if s.T < 0 || s.T > top || s.V < -top || s.V > top {
			return false
		}
		for _, later := range l[i+1:] {
			if later.T <= s.T {
				return false
			}
		}
	}
	return true
}

// slowSteps is one column's numbers: of the first two what the words say of them, of each further one the second difference written out.
func slowSteps(column []int) []int {
	steps := make([]int, len(column))
	for i, x := range column {
		switch i {
		case 0:
			steps[i] = x
		case 1:
			steps[i] = x - column[0]
		default:
			steps[i] = x - 2*column[i-1] + column[i-2]
		}
	}
	return steps
}

// slowNums is the numbers of samples that may be.
func slowNums(l []api.Sample) []int {
	var times, values []int
	for _, s := range l {
		times, values = append(times, s.T), append(values, s.V)
	}
	times, values = slowSteps(times), slowSteps(values)
	nums := []int{len(l)}
	for i := range l {
		nums = append(nums, times[i], values[i])
	}
	return nums
}

// slowColumn is what one column's numbers lead to, in numbers without an end; false: one is not from the least to the top.
func slowColumn(steps []int, least int64) ([]int, bool) {
	var column []int
	at, step := new(big.Int), new(big.Int)
	for i, x := range steps {
		switch i {
		case 0:
			at.SetInt64(int64(x))
		case 1:
			step.SetInt64(int64(x))
			at.Add(at, step)
		default:
			step.Add(step, big.NewInt(int64(x)))
			at.Add(at, step)
		}
		if at.Cmp(big.NewInt(least)) < 0 || at.Cmp(big.NewInt(top)) > 0 {
			return nil, false
		}
		column = append(column, int(at.Int64()))
	}
	return column, true
}

// slowUnpack is the samples whose data these are; false: they are none's.
func slowUnpack(d api.Data) ([]api.Sample, bool) {
	if len(d.Texts) > 0 || len(d.Nums)%2 == 0 || d.Nums[0] != len(d.Nums)/2 {
		return nil, false
	}
	var times, values []int
	for i, x := range d.Nums[1:] {
		if i%2 == 0 {
			times = append(times, x)
		} else {
			values = append(values, x)
		}
	}
	times, timesOk := slowColumn(times, 0)
	values, valuesOk := slowColumn(values, -top)
	if !timesOk || !valuesOk {
		return nil, false
	}
	var l []api.Sample
	for i := range times {
		l = append(l, api.Sample{T: times[i], V: values[i]})
	}
	return l, slowMayBe(l)
}

// width is how many bytes a number has in layer 2.
func width(n int) int {
	twice := new(big.Int).Lsh(big.NewInt(int64(n)), 1)
	if n < 0 {
		twice.Not(twice)
	}
	return max(1, (twice.BitLen()+6)/7)
}

// slowBytes is how many bytes numbers without texts have in layer 2.
func slowBytes(nums []int) int {
	n := 2
	if len(nums) > 127 {
		n = 3
	}
	for _, x := range nums {
		n += width(x)
	}
	return n
}

// wantCheck holds all calls on samples against what they must tell.
func wantCheck(t *testing.T, what string, l []api.Sample, ok bool) {
	t.Helper()
	if slowMayBe(l) != ok {
		t.Fatalf("%s: the test is wrong of %s", what, short(l))
	}
	if !ok {
		if e := block.Check(l); e != api.ErrArg {
			t.Errorf("%s: Check(%s) = %d", what, short(l), e)
		}
		if d, e := block.Pack(l); e != api.ErrArg || !blank(d) {
			t.Errorf("%s: Pack(%s) = %s, %d", what, short(l), short(d), e)
		}
		if n := block.Bytes(l); n != 0 {
			t.Errorf("%s: Bytes(%s) = %d", what, short(l), n)
		}
		return
	}
	if e := block.Check(l); e != api.OK {
		t.Errorf("%s: Check(%s) = %d", what, short(l), e)
	}
	must := slowNums(l)
	if d, e := block.Pack(l); e != api.OK || len(d.Texts) != 0 || !slices.Equal(d.Nums, must) {
		t.Errorf("%s: Pack(%s) = %s, %d, want %s", what, short(l), short(d), e, short(must))
	}
	if n := block.Bytes(l); n != slowBytes(must) {
		t.Errorf("%s: Bytes(%s) = %d, want %d", what, short(l), n, slowBytes(must))
	}
	wantUnpack(t, what, data(must...), l)
}

// wantUnpack tells that data are those of samples.
func wantUnpack(t *testing.T, what string, d api.Data, l []api.Sample) {
	t.Helper()
	if got, e := block.Unpack(d); e != api.OK || !slices.Equal(got, l) {
		t.Errorf("%s: Unpack(%s) = %s, %d, want %s", what, short(d), short(got), e, short(l))
	}
}

// wantText tells that data are no samples'.
func wantText(t *testing.T, what string, d api.Data) {
	t.Helper()
	if got, e := block.Unpack(d); e != api.ErrText || len(got) != 0 {
		t.Errorf("%s: Unpack(%s) = %s, %d, want ErrText", what, short(d), short(got), e)
	}
}

// wantSlow holds Unpack against the slow one, and Pack of what it tells against the data.
func wantSlow(t *testing.T, what string, d api.Data) bool {
	t.Helper()
	l, ok := slowUnpack(d)
	if !ok {
		wantText(t, what, d)
		return false
	}
	wantUnpack(t, what, d, l)
	if again, e := block.Pack(l); e != api.OK || len(again.Texts) != 0 || !slices.Equal(again.Nums, d.Nums) {
		t.Errorf("%s: Pack of Unpack(%s) = %s, %d", what, short(d), short(again), e)
	}
	return true
}

// edges are numbers at the ends of times, of values, of their differences, and of an int.
func edges() []int {
	l := []int{0, 1, -1, 2, -2, 10, math.MaxInt, math.MinInt, math.MaxInt - 1, math.MinInt + 1}
	for _, bit := range []int{31, 32, 39, 40, 41, 42, 43, 61, 62} {
		l = append(l, 1<<bit-1, 1<<bit, 1<<bit+1, -1<<bit-1, -1<<bit, -1<<bit+1)
	}
	return l
}

// chance is a row of numbers without a pattern, the same in each run.
type chance uint64

func (c *chance) next() uint64 {
	x := uint64(*c)
	x ^= x << 13
	x ^= x >> 7
	x ^= x << 17
	*c = chance(x)
	return x
}

func (c *chance) below(n int) int { return int(c.next() >> 17 % uint64(n)) }

// one is one of a list.
func one[T any](c *chance, l ...T) T { return l[c.below(len(l))] }

// value is one that may be: any, a small one, or one at an end.
func (c *chance) value() int {
	return one(c, c.below(2*top+1)-top, c.below(9)-4, top, -top)
}

// samples is some that may be, near to each other or far apart.
func (c *chance) samples() []api.Sample {
	n := one(c, 0, 1, 2, 3, 4, 5, c.below(most+1), most)
	room := one(c, 2, 3, 1000, top/most)
	l := make([]api.Sample, n)
	at := c.below(room)
	for i := range l {
		l[i] = api.Sample{T: at, V: c.value()}
		at += 1 + c.below(room-1)
	}
	if n > 0 && c.below(3) == 0 {
		l[n-1].T = top
	}
	return l
}
