package gorilla

import (
	"windrose/api"
	"windrose/bits"
)

const (
	firstRun = 2  // the place of the first sample that may begin a run
	longest  = 16 // how many samples a run has at most
	moreBits = 4  // how many bits tell how many more there are behind the first one
)

// tell is the bits of numbers, two a sample. No call for them is refused: they are far fewer than there may be.
func tell(nums []int) api.Bits {
	var x api.Bits
	for i := 0; i < len(nums)/2; {
		x, _ = bits.Number(x, nums[2*i])
		x, _ = bits.Number(x, nums[2*i+1])
		run := runAt(nums, i)
		if run > 0 {
			x, _ = bits.Put(x, uint64(run-1), moreBits)
		}
		i += max(run, 1)
	}
	return x
}

// runAt is how many samples the run has that begins at a place; 0: none does.
func runAt(nums []int, i int) int {
	run := 0
	for run < longest && isStill(nums, i+run) {
		run++
	}
	return run
}

// isStill tells whether there is a sample at a place that stands in a run.
func isStill(nums []int, i int) bool {
	return i >= firstRun && i < len(nums)/2 && nums[2*i] == 0 && nums[2*i+1] == 0
}

// hear is the numbers of n samples, how many they are ahead, whose bits these are; false: they are nobody's.
func hear(x api.Bits, n int) ([]int, bool) {
	r := bits.Read(x)
	nums := []int{n}
	broken := false // whether a run stands last that has room for one more
	for i := 0; i < n; {
		t, e := r.Number()
		v, f := r.Number()
		if e != api.OK || f != api.OK {
			return nil, false
		}
		run := 0
		if i >= firstRun && t == 0 && v == 0 {
			more, e := r.Take(moreBits)
			run = int(more) + 1
			if e != api.OK || broken || run > n-i {
				return nil, false
			}
		}
		broken = run > 0 && run < longest
		some := max(run, 1)
		nums = append(nums, t, v)
		nums = append(nums, make([]int, 2*(some-1))...)
		i += some
	}
	return nums, r.Left() == 0
}
