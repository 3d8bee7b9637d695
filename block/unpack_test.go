package block_test

import (
	"bytes"
	"fmt"
	"math"
	"slices"
	"testing"

	"windrose/api"
	"windrose/block"
	"windrose/frame"
)

func TestUnpackNone(t *testing.T) {
	wantUnpack(t, "none", data(0), nil)
	wantUnpack(t, "none, and an empty list of texts", api.Data{Nums: []int{0}, Texts: []string{}}, nil)
	wantText(t, "no numbers", api.Data{})
	wantText(t, "an empty list of numbers", api.Data{Nums: []int{}})
	wantText(t, "a text alone", api.Data{Texts: []string{"a"}})
}

func TestUnpackCount(t *testing.T) {
	for have := range most + 3 {
		nums := slowNums(even(have, 0, 1, 0))
		for said := -2; said <= most+3; said++ {
			nums[0] = said
			what := fmt.Sprint(said, " of ", have)
			if said == have && have <= most {
				wantUnpack(t, what, data(nums...), even(have, 0, 1, 0))
				continue
			}
			wantText(t, what, data(nums...))
		}
	}
	for _, said := range edges() {
		if said < 0 || said > most {
			wantText(t, "a count that may not be", data(said))
			wantText(t, "a count that may not be", data(said, 5, 0))
			wantText(t, "a count that may not be", data(said, 5, 0, 1, 0))
		}
	}
	// Twice these, and one, is 3, or 1, round the end of an int.
	for _, said := range []int{math.MinInt, math.MinInt + 1, 1 << 62, 1<<62 + 1, -1 << 62, 1<<63 - 1} {
		wantText(t, "a count round the end", data(said))
		wantText(t, "a count round the end", data(said, 5, 0))
	}
	wantText(t, "one number too few", data(1, 5))
	wantText(t, "one number too many", data(1, 5, 0, 1))
	wantText(t, "one number behind none", data(0, 0))
	wantText(t, "two numbers behind none", data(0, 0, 0))
	wantText(t, "very many numbers", data(make([]int, 1<<20+1)...))
	wantText(t, "a thousand samples", data(slowNums(even(1000, 1, 1, 0))...))
}

func TestUnpackTexts(t *testing.T) {
	for _, nums := range [][]int{{0}, {1, 5, 0}, {3, 10, 5, 10, 0, 0, 0}} {
		for _, texts := range [][]string{{""}, {"a"}, {"", ""}, {"a", "b"}} {
			wantText(t, "texts", api.Data{Nums: nums, Texts: texts})
		}
		roomy := []string{"a", "b"}
		l, _ := slowUnpack(data(nums...))
		wantUnpack(t, "texts behind the list's end", api.Data{Nums: nums, Texts: roomy[:0]}, l)
	}
}

func TestUnpackMayNotBe(t *testing.T) {
	for _, nums := range [][]int{
		{1, -1, 0}, {1, top + 1, 0}, {1, 0, top + 1}, {1, 0, -top - 1},
		{2, 5, 0, 0, 0}, {2, 5, 0, -1, 0}, {2, 5, 0, 0, 3}, {2, top, 0, 1, 0}, {2, 0, 0, top + 1, 0},
		{2, 0, top, 1, 1}, {2, 0, -top, 1, -1}, {2, 0, top, 1, -2*top - 1}, {2, 0, -top, 1, 2*top + 1},
		{3, 0, 0, 1, 0, -1, 0}, {3, 0, 0, 1, 0, -2, 0}, {3, 10, 5, 10, 0, -10, 0}, {3, 10, 5, 10, 0, -11, 0},
		{3, 0, 0, 1, 0, top - 1, 0}, {3, 0, 0, 1, top, 0, 0}, {3, 0, 0, 1, -top, 0, 0},
		{3, 0, top, 1, -2 * top, 0, 4*top + 1}, {3, 0, -top, 1, 2 * top, 0, -4*top - 1},
		// One that may not be stands between those that may.
		{3, -5, 0, 10, 0, 0, 0}, {3, 0, 0, 1, top + 1, 0, -2*top - 2}, {3, 0, 0, top + 1, 0, -top, 0}, {3, 5, 0, -1, 0, 10, 0},
	} {
		wantText(t, "of samples that may not be", data(nums...))
	}
	for _, nums := range [][]int{
		{1, 0, 0}, {1, top, 0}, {1, 0, top}, {1, 0, -top}, {2, 5, 0, 1, 0}, {2, 0, 0, top, 0},
		{2, 0, top, 1, -2 * top}, {2, 0, -top, 1, 2 * top}, {3, 0, 0, 1, 0, 0, 0}, {3, 10, 5, 10, 0, -9, 0},
		{3, 0, 0, 1, 0, top - 2, 0}, {3, 0, top, 1, -2 * top, 0, 4 * top}, {3, 0, -top, 1, 2 * top, 0, -4 * top},
	} {
		if !wantSlow(t, "of samples that may be", data(nums...)) {
			t.Errorf("the test is wrong of %v", nums)
		}
	}
}

// Sums that leave an int tell no samples, wherever they come to round its end.
func TestUnpackRoundTheEnd(t *testing.T) {
	const low, high = math.MinInt, math.MaxInt
	for _, nums := range [][]int{
		{1, low, 0}, {1, high, 0}, {1, 0, low}, {1, 0, high},
		{2, high, 0, low, 0}, {2, low, 0, low, 0}, {2, low, 0, high, 0}, {2, high, 0, high, 0}, {2, 5, 0, high, 0}, {2, 5, 0, low, 0},
		{2, 0, high, 1, low}, {2, 0, low, 1, low}, {2, 0, low, 1, high}, {2, 0, high, 1, high}, {2, 0, 5, 1, high}, {2, 0, -5, 1, low},
		{3, low, 0, low, 0, low + 1, 0}, {3, 0, 0, low, 0, low + 5, 0}, {3, 0, 0, high, 0, high, 0}, {3, 0, 0, high, 0, low + 3, 0},
		{3, 0, low, 1, low, 0, low}, {3, 0, 0, 1, low, 0, low}, {3, 0, 0, 1, high, 0, high}, {3, 0, 0, 1, high, 0, 3},
		{3, 0, 0, 1, 0, high, 0}, {3, 0, 0, 1, 0, low, 0}, {3, 0, 0, 1, 0, 0, high}, {3, 0, 0, 1, 0, 0, low},
		{4, 0, 0, 1, 0, high, 0, high, 0}, {4, 0, 0, 1, 0, low, 0, low, 0}, {4, 0, 0, 1, 0, 0, low, 0, low}, {4, 0, 0, 1, 0, 0, 1 << 62, 0, 1 << 62},
		{5, 0, 0, 1, 0, 0, 1 << 62, 0, 0, 0, 1 << 62}, {5, 0, 0, 1, 0, 1 << 62, 0, 1 << 62, 0, 1 << 62, 0},
	} {
		wantText(t, "round the end of an int", data(nums...))
	}
}

// Each number of data turned into each of the edges is as the slow reckoning says.
func TestUnpackTurned(t *testing.T) {
	c := chance(31)
	lists := [][]api.Sample{nil, row(5, 5), row(0, top, top, -top), even(3, 10, 10, 5), row(0, -top, 1, top, top, -top), row(1, 1, 2, 4, 4, 9, 8, 16)}
	for range 40 {
		lists = append(lists, c.samples())
	}
	for _, l := range lists {
		nums := slowNums(l)
		for i := range nums {
			for _, x := range append(edges(), nums[i]+1, nums[i]-1, -nums[i], nums[i]^math.MinInt) {
				turned := slices.Clone(nums)
				turned[i] = x
				wantSlow(t, "turned", data(turned...))
			}
			wantText(t, "one number gone", data(slices.Delete(slices.Clone(nums), i, i+1)...))
			wantText(t, "one number more", data(slices.Insert(slices.Clone(nums), i, 1)...))
		}
		if t.Failed() {
			return
		}
	}
}

// rows calls with each row of so many numbers of a list.
func rows(l []int, n int, call func([]int)) {
	nums := make([]int, n)
	var fill func(at int)
	fill = func(at int) {
		if at == n {
			call(nums)
			return
		}
		for _, x := range l {
			nums[at] = x
			fill(at + 1)
		}
	}
	fill(0)
}

// All rows of few numbers are as the slow reckoning says.
func TestUnpackAll(t *testing.T) {
	taken := 0
	try := func(nums []int) {
		if wantSlow(t, "all rows", data(nums...)) {
			taken++
		}
		if t.Failed() {
			t.FailNow()
		}
	}
	for n := range 5 {
		rows([]int{-2, -1, 0, 1, 2, 3, top, top + 1, -top, -top - 1, math.MaxInt, math.MinInt}, n, try)
	}
	for _, n := range []int{4, 5, 6, 7} {
		rows([]int{-1, 0, 1, 2, 3}, n, try)
	}
	rows([]int{0, 1, top, -top, 2 * top, -2 * top, math.MaxInt, math.MinInt}, 4, func(l []int) { try(append([]int{2}, l...)) })
	rows([]int{0, 1, top, -2 * top, math.MaxInt, math.MinInt}, 6, func(l []int) { try(append([]int{3}, l...)) })
	if taken < 1000 {
		t.Errorf("%d rows alone are samples'", taken)
	}
}

// Rows without a pattern end, and are as the slow reckoning says.
func TestUnpackAny(t *testing.T) {
	c := chance(4711)
	for range 20000 {
		nums := make([]int, c.below(140))
		for i := range nums {
			nums[i] = int(c.next()) >> c.below(64)
		}
		if len(nums) > 0 && c.below(2) == 0 {
			nums[0] = len(nums) / 2
		}
		wantSlow(t, "any numbers", data(nums...))
		if t.Failed() {
			return
		}
	}
}

// Unpack of Pack are the samples, and Pack of Unpack the data, also by way of layer 2's bytes.
func TestThereAndBack(t *testing.T) {
	c := chance(2024)
	for range 3000 {
		l := c.samples()
		wantCheck(t, "drawn", l, true)
		d, _ := block.Pack(l)
		b, e := frame.Encode(d)
		if e != api.OK || block.Bytes(l) != len(b) {
			t.Errorf("Bytes(%s) = %d, and Encode has %d, %d", short(l), block.Bytes(l), len(b), e)
		}
		read, _ := frame.Decode(b)
		got, e := block.Unpack(read)
		if e != api.OK || !block.Same(got, l) {
			t.Errorf("Unpack of Pack(%s) = %s, %d", short(l), short(got), e)
		}
		if again, e := block.Pack(got); e != api.OK || !frame.Same(again, d) {
			t.Errorf("Pack of Unpack(%s) = %s, %d", short(d), short(again), e)
		}
		if t.Failed() {
			return
		}
	}
}

// Samples that may be have one row of numbers each: drawn rows that Unpack takes lead to samples that Pack turns into them.
func TestOneRowEach(t *testing.T) {
	c := chance(99)
	taken := 0
	for range 20000 {
		n := c.below(8)
		nums := []int{n}
		for range n {
			nums = append(nums, one(&c, c.below(20), c.below(3)-1, c.below(top/8)), one(&c, c.below(9)-4, c.below(top/4)-top/8, math.MinInt))
		}
		if wantSlow(t, "drawn numbers", data(nums...)) {
			taken++
		}
	}
	if taken < 1000 {
		t.Errorf("%d rows alone are samples'", taken)
	}
}

// Samples of one value at one distance have two bytes each from the third one on.
func TestTwoBytes(t *testing.T) {
	for _, first := range []int{0, 1, 63, 64, 1000, top / 2} {
		for _, distance := range []int{1, 2, 10, 60, 64, 1 << 20, top / 2 / most} {
			for _, value := range []int{0, 5, -1, 64, 1 << 20, top, -top} {
				wantTwoBytes(t, first, distance, value)
			}
		}
	}
}

func wantTwoBytes(t *testing.T, first, distance, value int) {
	t.Helper()
	ahead := width(first) + width(value) + width(distance) + 1
	for n := 3; n <= most; n++ {
		l := even(n, first, distance, value)
		d, e := block.Pack(l)
		if e != api.OK {
			t.Fatalf("Pack(%s): %d", short(l), e)
		}
		b, _ := frame.Encode(d)
		counts := 2
		if n == most {
			// 129 numbers, and the number 64, have two bytes where fewer have one.
			counts = 4
		}
		further := b[counts+ahead : len(b)-1]
		if len(further) != 2*(n-2) || !bytes.Equal(further, make([]byte, 2*(n-2))) {
			t.Errorf("%d samples from %d on, at %d, of %d: %x behind the second one", n, first, distance, value, further)
		}
		if got := block.Bytes(l); got != counts+ahead+2*(n-2)+1 {
			t.Errorf("%d samples from %d on, at %d, of %d: %d bytes", n, first, distance, value, got)
		}
	}
}
