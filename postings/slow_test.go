package postings_test

import (
	"math/big"
	"slices"
	"testing"
)

// What the chapter says, word by word, without regard to time.

// sorted are the numbers of a set, rising.
func sorted(set map[int]bool) []int {
	var l []int
	for n, in := range set {
		if in {
			l = append(l, n)
		}
	}
	slices.Sort(l)
	return l
}

// slowMay: whether a list may be.
func slowMay(l []int) bool {
	for i, n := range l {
		if n < 0 || n > top {
			return false
		}
		if i > 0 && n <= l[i-1] {
			return false
		}
	}
	return len(l) <= 4096
}

// slowSet are the numbers of a list; of one that may not be none.
func slowSet(l []int) map[int]bool {
	set := map[int]bool{}
	if slowMay(l) {
		for _, n := range l {
			set[n] = true
		}
	}
	return set
}

// slowAnd, slowOr, slowWithout are as of sets.
func slowAnd(l ...[]int) []int {
	in := map[int]int{}
	for _, x := range l {
		for n := range slowSet(x) {
			in[n]++
		}
	}
	all := map[int]bool{}
	for n, times := range in {
		all[n] = times == len(l)
	}
	return sorted(all)
}

func slowOr(l ...[]int) []int {
	all := map[int]bool{}
	for _, x := range l {
		for n := range slowSet(x) {
			all[n] = true
		}
	}
	got := sorted(all)
	return got[:min(len(got), 4096)]
}

func slowWithout(a, b []int) []int {
	set := slowSet(a)
	for n := range slowSet(b) {
		delete(set, n)
	}
	return sorted(set)
}

// slowRank: how many are below a number.
func slowRank(l []int, n int) int {
	below := 0
	if slowMay(l) {
		for _, m := range l {
			if m < n {
				below++
			}
		}
	}
	return below
}

// slowData are the numbers of a list that may be: number by number, by the row that it stands in.
func slowData(l []int) []int {
	nums := []int{len(l)}
	first, end := 0, 0
	for i, n := range l {
		if i == end {
			first, end = i, i+1
			for end < len(l) && l[end] == l[end-1]+1 {
				end++
			}
		}
		row := end - first
		switch {
		case row >= 3 && i == first+1:
			nums = append(nums, -row)
		case row >= 3 && i > first+1:
		case i == 0:
			nums = append(nums, n)
		default:
			nums = append(nums, n-l[i-1]-1)
		}
	}
	return nums
}

// slowList is the list of numbers, reckoned in big ones; false: they are none's.
func slowList(nums []int) ([]int, bool) {
	if len(nums) == 0 {
		return nil, false
	}
	var l []int
	last := big.NewInt(-1)
	for i, n := range nums[1:] {
		own, many := big.NewInt(int64(n)), 1
		if n < 0 {
			if i == 0 || own.Cmp(big.NewInt(-4096)) < 0 {
				return nil, false
			}
			own, many = new(big.Int), -n-1
		}
		for j := range many {
			if j > 0 {
				own = new(big.Int)
			}
			last = new(big.Int).Add(last, new(big.Int).Add(own, big.NewInt(1)))
			if last.Cmp(big.NewInt(top)) > 0 || len(l) == 4096 {
				return nil, false
			}
			l = append(l, int(last.Int64()))
		}
	}
	return l, slices.Equal(slowData(l), nums)
}

// slowLeft are those of a list that are a number or more.
func slowLeft(l []int, n int) []int {
	for i, m := range l {
		if m >= n {
			return l[i:]
		}
	}
	return nil
}

// TestTheSlowReckoning: what the tests lean on, at values put down by hand.
func TestTheSlowReckoning(t *testing.T) {
	for _, c := range []struct {
		l, nums []int
	}{
		{nil, []int{0}}, {[]int{9}, []int{1, 9}}, {[]int{0, 1}, []int{2, 0, 0}}, {[]int{5, 6, 7, 8, 20}, []int{5, 5, -4, 11}}, {[]int{1, 3, 4, 5, 7, 8}, []int{6, 1, 1, -3, 1, 0}},
	} {
		if got := slowData(c.l); !slices.Equal(got, c.nums) {
			t.Errorf("%v: %v", c.l, got)
		}
		if got, ok := slowList(c.nums); !slices.Equal(got, c.l) || !ok {
			t.Errorf("%v: %v, %v", c.nums, got, ok)
		}
	}
	for _, l := range rights() {
		if !slowMay(l) {
			t.Errorf("%s: it may not be", short(l))
		}
	}
	for _, l := range wrongs() {
		if slowMay(l) {
			t.Errorf("%s: it may be", short(l))
		}
	}
}
