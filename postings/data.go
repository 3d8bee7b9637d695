package postings

import (
	"slices"

	"windrose/api"
)

// shortest is how many numbers that follow one another are told as one row.
const shortest = 3

// Encode is a list's data.
func Encode(l []int) (api.Data, api.Errno) {
	if Check(l) != api.OK {
		return api.Data{}, api.ErrArg
	}
	return api.Data{Nums: told(l)}, api.OK
}

// told are the numbers of a list that may be. Ahead of its first one stands -1, so that it is told as the others are.
func told(l []int) []int {
	nums := []int{len(l)}
	last := -1
	for len(l) > 0 {
		nums = append(nums, l[0]-last-1)
		n := row(l)
		if n < shortest {
			n = 1
		} else {
			nums = append(nums, -n)
		}
		last, l = l[n-1], l[n:]
	}
	return nums
}

// row is how many numbers of a list that is not empty follow one another, from the first one on.
func row(l []int) int {
	n := 1
	for n < len(l) && l[n] == l[n-1]+1 {
		n++
	}
	return n
}

// Decode is the list of data. Numbers that can be read and are told otherwise than Encode does are no list's.
func Decode(d api.Data) ([]int, api.Errno) {
	if len(d.Nums) == 0 || len(d.Texts) > 0 {
		return nil, api.ErrText
	}
	l, ok := read(d.Nums[1:])
	if !ok || !slices.Equal(told(l), d.Nums) {
		return nil, api.ErrText
	}
	return l, api.OK
}

// read is the list of the numbers behind the count; false: of none that may be.
func read(nums []int) ([]int, bool) {
	var l []int
	last := -1
	for _, n := range nums {
		many, ahead := 1, n
		if n < 0 { // how many a row has, whose first one is there already
			many, ahead = -1-n, 0
		}
		if many < 1 || many > most-len(l) || ahead > api.MaxCount-last-many {
			return nil, false
		}
		for i := range many {
			l = append(l, last+ahead+1+i)
		}
		last = l[len(l)-1]
	}
	return l, true
}
