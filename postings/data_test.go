package postings_test

import (
	"fmt"
	"math"
	"slices"
	"testing"

	"windrose/api"
	"windrose/postings"
)

// TestExample: a row of four, and one apart.
func TestExample(t *testing.T) {
	wantData(t, []int{5, 6, 7, 8, 20}, 5, 5, -4, 11)
}

// TestDataKnown: numbers that were put together by hand.
func TestDataKnown(t *testing.T) {
	for _, c := range []struct {
		l, nums []int
	}{
		{nil, []int{0}},
		{[]int{}, []int{0}},
		{[]int{0}, []int{1, 0}},
		{[]int{9}, []int{1, 9}},
		{[]int{top}, []int{1, top}},
		{[]int{0, 1}, []int{2, 0, 0}},
		{[]int{5, 6}, []int{2, 5, 0}},
		{[]int{5, 7}, []int{2, 5, 1}},
		{[]int{0, top}, []int{2, 0, top - 1}},
		{[]int{top - 1, top}, []int{2, top - 1, 0}},
		{[]int{0, 1, 2}, []int{3, 0, -3}},
		{[]int{5, 6, 7}, []int{3, 5, -3}},
		{[]int{5, 6, 8}, []int{3, 5, 0, 1}},
		{[]int{5, 7, 8}, []int{3, 5, 1, 0}},
		{[]int{top - 2, top - 1, top}, []int{3, top - 2, -3}},
		{[]int{1, 3, 4, 5}, []int{4, 1, 1, -3}},
		{[]int{1, 2, 3, 5}, []int{4, 1, -3, 1}},
		{[]int{0, 2, 3, 5, 6, 7, 9, 10}, []int{8, 0, 1, 0, 1, -3, 1, 0}},
		{rows(0, 3, 4, 3), []int{6, 0, -3, 0 + 1, -3}},
		{rows(0, 3, 5, 4, 20, 5), []int{12, 0, -3, 2, -4, 11, -5}},
		{rows(7, 100, 200, 3, 300, 2, 400, 1), []int{106, 7, -100, 93, -3, 97, 0, 98}},
		{rows(0, 2, 3, 2, 6, 2), []int{6, 0, 0, 1, 0, 1, 0}},
		{span(0, most), []int{most, 0, -most}},
		{span(9, most), []int{most, 9, -most}},
		{span(top-most+1, most), []int{most, top - most + 1, -most}},
		{span(9, most-1), []int{most - 1, 9, 1 - most}},
		{rows(0, most-1, most, 1), []int{most, 0, 1 - most, 1}},
		{rows(0, 1, 2, most-1), []int{most, 0, 1, 1 - most}},
		{rows(0, most/2, most, most/2), []int{most, 0, -most / 2, most / 2, -most / 2}},
	} {
		wantData(t, c.l, c.nums...)
	}
	gaps := slices.Repeat([]int{1}, most)
	gaps[0] = 5
	wantData(t, steps(5, 2, most), append([]int{most}, gaps...)...)
}

// TestData: of all lists, by the slow reckoning.
func TestData(t *testing.T) {
	for _, l := range rights() {
		wantData(t, l, slowData(l)...)
	}
}

// TestDataOfWrongs: of lists that may not be there are none.
func TestDataOfWrongs(t *testing.T) {
	for _, l := range wrongs() {
		d, e := postings.Encode(l)
		if e != api.ErrArg || len(d.Nums) != 0 || len(d.Texts) != 0 {
			t.Errorf("Encode(%s): %s, %d texts, error %d, want 1", short(l), short(d.Nums), len(d.Texts), e)
		}
	}
}

// TestRowsOfAllLengths: at the beginning, in the midst, at the end; two rows with a gap between.
func TestRowsOfAllLengths(t *testing.T) {
	for n := 3; n < 400; n++ {
		wantData(t, span(0, n), n, 0, -n)
		wantData(t, rows(5, n, 900, 1), n+1, 5, -n, 895-n)
		wantData(t, rows(5, 1, 9, n), n+1, 5, 3, -n)
		wantData(t, rows(5, 1, 9, n, 900, 1), n+2, 5, 3, -n, 891-n)
		wantData(t, rows(5, n, 6+n, n), 2*n, 5, -n, 1, -n)
		wantData(t, rows(5, n, 7+n, 2), n+2, 5, -n, 2, 0)
		wantData(t, rows(5, 2, 8, n), n+2, 5, 0, 1, -n)
	}
}

// TestNoData: numbers that are no list's, each by what is amiss.
func TestNoData(t *testing.T) {
	for what, l := range map[string][][]int{
		"no numbers":                  {nil, {}},
		"one too few":                 {{1}, {2, 5}, {3, 5, 0}, {5, 5, -4}, {4, 5, -3}, {most, 0}, {most}},
		"one too many":                {{0, 0}, {0, 5}, {1, 5, 0}, {1, 5, 7}, {5, 5, -4, 11, 0}, {3, 5, -3, 1}, {most, 0, -most, 0}, {most, 0, -most, 1}, {0, 0, -3}},
		"another count":               {{4, 5, -4, 11}, {6, 5, -4, 11}, {0, 5, -4, 11}, {-5, 5, -4, 11}, {2, 5, -3}, {4, 5, -3}, {1, 0, 0}, {0, 9}, {2, 9}, {most - 1, 0, -most}, {most + 1, 0, -most}},
		"a count that may not be":     {{-1}, {-3}, {most + 1}, {math.MinInt}, {math.MaxInt}, {-1, 5}, {most + 1, 0, -most - 1}, {most + 1, 0, -most, 1}, {math.MaxInt, 5}, {1 << 32}, {1<<32 + 1, 5}},
		"below 0, no row can be":      {{1, -1}, {1, -2}, {1, -3}, {3, -3}, {2, -3}, {4, -4}, {3, -4}, {2, -2}, {1, math.MinInt}, {2, 5, -1}, {2, 5, -2}, {6, 5, -3, -3}, {5, 5, -3, -3}, {4, 5, -3, -2}, {4, 5, -3, -1}, {1, 5, -1}, {1, 5, -3}},
		"a row as single numbers":     {{3, 5, 0, 0}, {3, 0, 0, 0}, {4, 5, 0, 0, 0}, {4, 5, 3, 0, 0}, {4, 5, 0, 0, 3}, {5, 5, 0, 0, 0, 11}, {3, top - 2, 0, 0}},
		"two as a row":                {{2, 5, -2}, {2, 0, -2}, {3, 5, -2, 4}, {3, 5, 4, -2}, {2, top - 1, -2}},
		"one as a row":                {{1, 5, -1}, {1, 0, -1}, {2, 5, -1, 4}, {2, 5, 4, -1}},
		"a row in two pieces":         {{4, 5, -3, 0}, {4, 5, 0, -3}, {6, 5, -3, 0, -3}, {5, 5, -3, -3}, {6, 5, -4, -3}, {5, 5, -3, 0, 0}, {5, 5, 0, 0, -3}, {7, 5, -4, 0, -3}, {most, 0, -most / 2, 0, -most / 2}, {most, 0, 1 - most, 0}, {most, 0, 0, 1 - most}},
		"a row beyond the count":      {{3, 5, -4}, {5, 5, -6}, {3, 5, -most}, {1, 5, -3}, {0, 5, -3}, {5, 5, -5, 11}, {3, 5, math.MinInt}, {3, 5, math.MinInt + 1}, {3, 5, -1 << 32}, {3, 5, -1<<32 - 3}},
		"a row of more than may be":   {{most + 1, 5, -most - 1}, {most, 5, -most - 1}, {most, 5, 1, -most}, {most + 1, 5, 1, -most}, {most, 5, -most, 1}, {most, 5, -5, 1, -most}, {most, 5, -5, 1, 5 - most - 1}, {-most, 5, -most}},
		"a row beyond what may be":    {{3, top, -3}, {3, top - 1, -3}, {4, top - 2, -4}, {5, 0, top - 2, -4}, {most, top - most + 2, -most}, {most, top, -most}, {4, 0, top - 1, -3}},
		"a gap beyond what may be":    {{1, top + 1}, {2, 0, top}, {2, 1, top - 1}, {2, top, 0}, {2, top, 1}, {2, top - 1, 1}, {2, top, top}, {4, 5, -3, top - 7}, {3, 5, 6, top - 12}, {4, top - 2, -3, 0}},
		"a gap beyond an int":         {{1, math.MaxInt}, {2, 0, math.MaxInt}, {2, 5, math.MaxInt}, {2, top, math.MaxInt}, {2, 0, math.MaxInt - 1}, {2, 1, math.MaxInt - 1}, {4, 5, -3, math.MaxInt}, {3, 5, math.MaxInt, math.MaxInt}, {3, 5, math.MaxInt, 3}, {2, 5, 1<<63 - 7}, {2, 5, 1<<32 + 1}, {1, 1 << 32}},
		"a gap below an int":          {{2, 5, math.MinInt}, {2, top, math.MinInt}, {1, math.MinInt}, {2, 0, math.MinInt + 1}, {2, 5, -1<<32 + 3}},
		"a first one, beside a count": {{1, -1}, {1, top + 1}, {most + 1, 0}},
	} {
		for _, nums := range l {
			wantNoData(t, what, nums...)
		}
	}
	singles := append([]int{most, 5}, make([]int, most-1)...)
	wantNoData(t, "a whole list's row as single numbers", singles...)
	wantNoData(t, "one more than may be", append([]int{most + 1}, slices.Repeat([]int{1}, most+1)...)...)
	wantNoData(t, "many more than may be", append([]int{10 * most}, slices.Repeat([]int{1}, 10*most)...)...)
	wantNoData(t, "many more than are told", append([]int{most}, slices.Repeat([]int{1}, most+1)...)...)
}

// TestAtTheTop: the last gap, and the last row, that may be.
func TestAtTheTop(t *testing.T) {
	wantData(t, []int{0, top}, 2, 0, top-1)
	wantData(t, []int{5, 6, 7, top}, 4, 5, -3, top-8)
	wantData(t, []int{5, 12, top}, 3, 5, 6, top-13)
	wantData(t, append([]int{0}, span(top-3, 4)...), 5, 0, top-4, -4)
	wantData(t, append([]int{0}, span(top-1, 2)...), 3, 0, top-2, 0)
	wantData(t, append([]int{5}, span(top-most+2, most-1)...), most, 5, top-most-4, 1-most)
}

// TestTexts: a list's data have none, be it empty.
func TestTexts(t *testing.T) {
	for _, l := range rights() {
		for _, texts := range [][]string{{""}, {"cpu"}, {"", ""}} {
			got, e := postings.Decode(api.Data{Nums: slowData(l), Texts: texts})
			wantTold(t, fmt.Sprintf("%s with %d texts", short(l), len(texts)), got, e, nil, api.ErrText)
		}
		got, e := postings.Decode(api.Data{Nums: slowData(l), Texts: []string{}})
		wantTold(t, short(l), got, e, l, api.OK)
	}
	got, e := postings.Decode(api.Data{Texts: []string{"0"}})
	wantTold(t, "texts alone", got, e, nil, api.ErrText)
}

// wantDecoded holds Decode of any numbers against the slow reckoning.
func wantDecoded(t *testing.T, nums []int) {
	t.Helper()
	must, ok := slowList(nums)
	got, e := postings.Decode(api.Data{Nums: nums})
	if ok {
		wantTold(t, fmt.Sprintf("Decode(%s)", short(nums)), got, e, must, api.OK)
	} else {
		wantTold(t, fmt.Sprintf("Decode(%s)", short(nums)), got, e, nil, api.ErrText)
	}
}

// TestNumbersTurned: each number of data, turned into each edge, into those beside it; left out; and doubled.
func TestNumbersTurned(t *testing.T) {
	for _, l := range rights() {
		nums := slowData(l)
		if len(nums) > 30 {
			continue
		}
		for i, was := range nums {
			for _, n := range append(edges(), was-1, was+1, -was, was-3, was+3) {
				turned := slices.Clone(nums)
				turned[i] = n
				wantDecoded(t, turned)
				wantDecoded(t, slices.Insert(slices.Clone(nums), i, n))
			}
			wantDecoded(t, slices.Delete(slices.Clone(nums), i, i+1))
			wantDecoded(t, slices.Insert(slices.Clone(nums), i, was))
			wantDecoded(t, nums[:i])
		}
		for _, n := range edges() {
			wantDecoded(t, append(slices.Clone(nums), n))
		}
	}
}

// TestDataOfFew: all rows of up to five numbers from -5 to 5 are the data of just those lists whose data they are.
func TestDataOfFew(t *testing.T) {
	lists := map[string][]int{}
	var more func(l []int)
	more = func(l []int) {
		nums := slowData(l)
		lists[fmt.Sprint(nums)] = l
		for gap := 0; gap <= 5 && len(l) < 5; gap++ {
			more(append(l[:len(l):len(l)], 1+gap+append([]int{-1}, l...)[len(l)]))
		}
	}
	more(nil)
	read := 0
	few([]int{-5, -4, -3, -2, -1, 0, 1, 2, 3, 4, 5}, 5, func(nums []int) {
		must, ok := lists[fmt.Sprint(nums)]
		got, e := postings.Decode(api.Data{Nums: nums})
		if ok {
			read++
			wantTold(t, short(nums), got, e, must, api.OK)
		} else {
			wantTold(t, short(nums), got, e, nil, api.ErrText)
		}
	})
	if read < 1000 {
		t.Errorf("%d: too few can be read", read)
	}
}

// TestDrawnNumbers: rows of numbers, drawn so that now and then they are a list's.
func TestDrawnNumbers(t *testing.T) {
	c := chance(521288629)
	read := 0
	for range 200000 {
		nums := []int{0}
		count := 0
		for range c.below(7) {
			n := one(&c, 0, 0, 1, 1, 2, -3, -3, -4, -5, 7, -2)
			nums = append(nums, n)
			count += max(1, -n-1)
		}
		nums[0] = count + one(&c, 0, 0, 0, 0, 1, -1)
		wantDecoded(t, nums)
		if _, ok := slowList(nums); ok {
			read++
		}
	}
	if read < 10000 {
		t.Errorf("%d: too few can be read", read)
	}
}
