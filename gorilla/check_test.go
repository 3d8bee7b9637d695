package gorilla_test

import (
	"fmt"
	"math"
	"slices"
	"testing"

	"windrose/api"
	"windrose/gorilla"
)

// start are the bits of (0, 0) and (1, 0).
const start = "0 0 10 0000010 0 "

// TestRunsThatAreToldOtherwise: bits that tell what stands in runs otherwise than the words do.
func TestRunsThatAreToldOtherwise(t *testing.T) {
	for _, c := range []struct {
		n    int
		bits string
	}{
		{3, "0 0"}, {3, "00 0"}, {3, "00 00"}, {3, "00 000"}, // no whole run
		{4, "0 0 0 0"}, {5, "0 0 0 0 0 0"}, {8, "00 00 00 00 00 00"}, {14, "00 00 00 00 00 00 00 00 00 00 00 00"}, // two bits for each
		{3, "00 0001"}, {4, "00 0010"}, {4, "00 0000"}, {5, "00 0001"}, {18, "00 1110"}, {17, "00 1111"}, {64, "00 1111"}, {2, "00 0000"}, // more or fewer than are left
		{4, "00 0000 00 0000"}, {5, "00 0001 00 0000"}, {5, "00 0000 00 0001"}, {18, "00 0111 00 0111"}, {18, "00 1110 00 0000"}, {18, "00 0000 00 1110"}, // fewer than 16, and more behind
		{19, "00 0000 00 1111"}, {19, "00 1110 00 0001"}, {34, "00 1110 00 1111 00 0000"}, {35, "00 1111 00 0000 00 1111"}, {35, "00 1111 00 1110 00 0001"}, {5, "00 0000 00 0000 00 0000"},
		{6, "00 0000 00 0000 10 0000010 0 00 0000"}, {6, "00 0000 10 0000010 0 00 0000 00 0000"}, {20, "00 1110 00 0000 0 10 0000010"},
		{3, "00 0000 0"}, {3, "00 0000 00 0000"}, {3, "00 0000 0000"}, // more behind
	} {
		wantWrong(t, start+c.bits, chunk(c.n, 0, c.n-1, start+c.bits))
	}
	for _, c := range []struct {
		n    int
		bits string
	}{{3, "00 0000"}, {4, "00 0001"}, {18, "00 1111"}, {19, "00 1111 00 0000"}, {34, "00 1111 00 1111"}} {
		wantRight(t, chunk(c.n, 0, c.n-1, start+c.bits), led(append([]int{0, 0, 1, 0}, still(c.n-2)...)...))
	}
}

// TestRunsAheadOfTheThird: 0, 0 is no run there, and a run is none there.
func TestRunsAheadOfTheThird(t *testing.T) {
	wantRight(t, chunk(1, 0, 0, "00"), row(0, 0))
	for n := range 16 {
		more := fmt.Sprintf("%04b", n)
		wantWrong(t, "a run of the first one", chunk(1, 0, 0, "00"+more))
		wantWrong(t, "a run of the first ones", chunk(n+1, 0, 0, "00"+more))
		wantWrong(t, "a run of the first one, and the second one", chunk(2, 0, 1, "00"+more+"10 0000010 0"))
		wantWrong(t, "a run of the second one", chunk(2, 5, 5, "10 0001010 0 00"+more))
		wantWrong(t, "a run of the second ones", chunk(n+2, 5, 5, "10 0001010 0 00"+more))
	}
	wantWrong(t, "the second one still", chunk(2, 5, 5, "10 0001010 0 00"))
	wantWrong(t, "the second one still, at 0", chunk(2, 0, 0, "00 00"))
}

// TestHowManyThereAre: N that is not that of the bits.
func TestHowManyThereAre(t *testing.T) {
	for _, l := range lists() {
		c := slowChunk(l)
		for _, n := range append(edges(), len(l)-1, len(l)+1, -len(l), 63, 64, 65, 66, 128, len(l)+64, len(l)+256, len(l)+1<<32) {
			if c.N = n; n != len(l) {
				wantWrong(t, "how many", c)
			}
		}
	}
	for _, n := range []int{65, 66, 100, 1000} {
		for _, l := range [][]api.Sample{even(n), rough(n)} {
			wantWrong(t, "too many", slowChunk(l))
		}
	}
	wantWrong(t, "none", api.Chunk{})
	wantWrong(t, "none", chunk(0, 0, 0, "00"))
}

// TestFirstAndLast: times that are not those of the first and the last one.
func TestFirstAndLast(t *testing.T) {
	for _, l := range [][]api.Sample{row(0, 0), row(5, 5), row(top, 1), even(2), even(5), rough(7), wild(64), even(64), row(0, 0, top, 0)} {
		c := slowChunk(l)
		for _, x := range append(edges(), c.First-1, c.First+1, c.Last-1, c.Last+1, c.Last, c.First) {
			first, last := c, c
			if first.First = x; x != c.First {
				wantWrong(t, "First", first)
			}
			if last.Last = x; x != c.Last {
				wantWrong(t, "Last", last)
			}
		}
	}
}

// TestBitsTurned: one more, one less, each turned, and such as may not be.
func TestBitsTurned(t *testing.T) {
	turned, right := 0, 0
	for i, l := range lists() {
		c := slowChunk(l)
		s := text(c.Bits)
		for _, more := range []string{"0", "1", "00", "000000", "00000000", "10000000", "000000001"} {
			wantWrong(t, "more bits", chunk(c.N, c.First, c.Last, s+more))
		}
		for _, less := range []int{1, 2, 6, 8} {
			wantWrong(t, "fewer bits", chunk(c.N, c.First, c.Last, s[:max(0, len(s)-less)]))
		}
		wantWrong(t, "no bits", chunk(c.N, c.First, c.Last, ""))
		if i%7 != 0 {
			continue
		}
		for at := range s {
			y := chunk(c.N, c.First, c.Last, s)
			y.Bits.B[at/8] ^= 0x80 >> (at % 8)
			turned++
			if wantSlow(t, y) {
				right++
			}
		}
	}
	if turned < 10000 || right < 100 {
		t.Errorf("%d turned, %d right: too few to tell", turned, right)
	}
}

// wantSlow holds the calls against the slow reckoning, and tells whether the chunk may be.
func wantSlow(t *testing.T, c api.Chunk) bool {
	t.Helper()
	l, ok := slowSamples(c)
	if ok {
		wantRight(t, c, l)
		return true
	}
	wantWrong(t, "by the slow reckoning", c)
	return false
}

// TestBitsCutAnywhere: a chunk's bits up to each place, by each N that they may seem to be of.
func TestBitsCutAnywhere(t *testing.T) {
	for _, l := range [][]api.Sample{even(20), rough(9), wild(5), led(append([]int{0, 0, 1, 0}, still(33)...)...)} {
		s := slowBits(l)
		for at := range len(s) + 1 {
			for n := 1; n <= len(l); n++ {
				c := chunk(n, l[0].T, l[n-1].T, s[:at])
				if s[:at] == slowBits(l[:n]) {
					wantRight(t, c, l[:n])
					continue
				}
				wantWrong(t, "cut", c)
			}
		}
	}
}

// TestBitsThatMayNotBe: bytes too many or too few, and what stands behind the last bit.
func TestBitsThatMayNotBe(t *testing.T) {
	for _, l := range [][]api.Sample{row(0, 0), even(3), even(64), rough(10), wild(64), row(1, -1)} {
		c := slowChunk(l)
		bits := func(n int, b ...byte) {
			wantWrong(t, "bits", api.Chunk{N: c.N, First: c.First, Last: c.Last, Bits: api.Bits{N: n, B: b}})
		}
		bits(c.Bits.N, append(slices.Clone(c.Bits.B), 0)...)
		bits(c.Bits.N, c.Bits.B[:len(c.Bits.B)-1]...)
		bits(c.Bits.N)
		for _, n := range append(edges(), c.Bits.N-1, c.Bits.N+1, c.Bits.N+8, c.Bits.N-8, -c.Bits.N, 1<<17, 1<<17+1) {
			if n != c.Bits.N {
				bits(n, c.Bits.B...)
			}
		}
		for i := c.Bits.N; i < 8*len(c.Bits.B); i++ {
			b := slices.Clone(c.Bits.B)
			b[i/8] |= 0x80 >> (i % 8)
			bits(c.Bits.N, b...)
		}
	}
	wantWrong(t, "too many bits", api.Chunk{N: 1, Bits: api.Bits{N: 1<<17 + 1, B: make([]byte, 1<<14+1)}})
	wantWrong(t, "as many bits as there may be", api.Chunk{N: 64, Bits: api.Bits{N: 1 << 17, B: make([]byte, 1<<14)}})
}

// TestGreaterClass: each number in each class but its least one.
func TestGreaterClass(t *testing.T) {
	told := map[int]int{}
	for _, l := range append(fews(), even(18), rough(9), led(append([]int{100, 0, 10, 1, 0, 5, -3, 0}, still(20)...)...)) {
		nums := slowNums(l)
		for i := range nums {
			for class := slowClass(nums[i]) + 1; class < 5; class++ {
				c := slowChunk(l)
				c.Bits = of(otherwise(nums, i, class))
				wantWrong(t, fmt.Sprintf("number %d in class %d", i, class), c)
				told[class]++
			}
		}
	}
	if told[1] < 100 || told[2] < 100 || told[3] < 100 || told[4] < 100 {
		t.Errorf("%v: too few to tell", told)
	}
}

// otherwise are numbers as a text of noughts and ones, one of them in another class; what stands ahead of it and behind it is told in runs as far as it is still.
func otherwise(nums []int, at, class int) string {
	s := ""
	for i := 0; i < len(nums); i += 2 {
		waiting := 0
		for i+2*waiting < len(nums) && i >= 4 && nums[i+2*waiting] == 0 && nums[i+2*waiting+1] == 0 && (i+2*waiting)/2 != at/2 && waiting < 16 {
			waiting++
		}
		if waiting > 0 {
			s += fmt.Sprintf("00%04b", waiting-1)
			i += 2*waiting - 2
			continue
		}
		for _, j := range []int{i, i + 1} {
			if j == at {
				s += slowSigns(nums[j], class)
			} else {
				s += signs(nums[j])
			}
		}
	}
	return s
}

// TestSamplesThatMayNotBe: bits that are well told, of times and values that may not be.
func TestSamplesThatMayNotBe(t *testing.T) {
	right := 0
	for _, x := range append(edges(), classes()...) {
		for _, nums := range [][]int{
			{x, 0}, {0, x}, {x, x}, {5, 0, x, 0}, {0, 0, 1, x}, {0, top, 1, x}, {0, -top, 1, x}, {top, 0, x, 0}, {0, 0, 1, 0, x, 0}, {0, 0, 1, 0, 0, x}, {0, 0, top, 0, x, 0}, {0, 1, 5, -1, x, 1},
			{0, 0, 1, x, 0, -x}, {x, 0, -x, 0}, {x, 0, x, 0}, {0, x, 1, x, 1, x}, {0, 0, x, 0, x, 0}, {0, 0, 1, 0, x, x}, {0, 0, 1, 0, 0, 0, x, 0}, {0, 0, 1, 0, 0, 0, 0, x},
		} {
			s, times := "", led(nums...)
			for i := 0; i < len(nums); i += 2 {
				s += signs(nums[i]) + signs(nums[i+1])
				if i >= 4 && nums[i] == 0 && nums[i+1] == 0 {
					s += "0000"
				}
			}
			if wantSlow(t, chunk(len(times), times[0].T, times[len(times)-1].T, s)) {
				right++
			}
		}
	}
	if right < 200 {
		t.Errorf("%d are right: too few to tell", right)
	}
}

// TestNumbersThatRunRound: sums that would come to times that may be only where they ran round an int's end.
func TestNumbersThatRunRound(t *testing.T) {
	for _, nums := range [][]int{{0, 0, math.MaxInt, 0, math.MaxInt, 0}, {0, 0, math.MinInt, 0, math.MinInt, 0}, {5, math.MinInt, 1, math.MinInt}, {math.MaxInt, 0, math.MinInt, 0, 5, 0}, {0, math.MaxInt, 1, math.MinInt, 1, 9}, {1, 0, math.MaxInt, 0, math.MinInt, 0}, {0, math.MinInt, 1, math.MinInt, 0, math.MinInt, 1, 0}} {
		s, l := "", led(nums...)
		for _, n := range nums {
			s += signs(n)
		}
		wantWrong(t, "round", chunk(len(l), l[0].T, l[len(l)-1].T, s))
	}
}

// TestFallingBehindARun: samples of a run whose times, or values, come to be such as may not be.
func TestFallingBehindARun(t *testing.T) {
	for _, nums := range [][]int{{0, 0, top / 4, 0}, {top, 0, -1, 0}, {5, 0, -1, 0}, {0, 0, 1, top / 3}, {0, 0, 1, -top / 3}, {0, top, 1, 1}, {0, -top, 1, -1}, {top - 3, 0, 1, 0}} {
		for n := 1; n <= 16; n++ {
			l := led(append(slices.Clone(nums), still(n)...)...)
			c := chunk(n+2, l[0].T, l[n+1].T, signs(nums[0])+signs(nums[1])+signs(nums[2])+signs(nums[3])+fmt.Sprintf("00%04b", n-1))
			if slowRow(l) {
				wantRight(t, c, l)
			} else {
				wantWrong(t, "a run too far", c)
			}
		}
	}
}

// TestAllBits: each row of few bits, alone and behind two samples, by each N, with First and Last as the bits would have them.
func TestAllBits(t *testing.T) {
	right := 0
	for _, ahead := range []string{"", "001000000100"} {
		for size := range 13 {
			for u := range 1 << size {
				s := ahead
				if size > 0 {
					s += fmt.Sprintf("%0*b", size, u)
				}
				for _, n := range []int{1, 2, 3, 4, 5, 9, 18, 19, 20} {
					if wantSeemly(t, s, n) {
						right++
					}
				}
			}
		}
	}
	if right < 300 {
		t.Errorf("%d are right: too few to tell", right)
	}
}

// wantSeemly holds Check and Samples of a chunk of n samples' bits against the slow reckoning.
func wantSeemly(t *testing.T, s string, n int) bool {
	t.Helper()
	c := chunk(n, 0, 0, s)
	if l, ok := slowHear(s, n); ok {
		c.First, c.Last = l[0].T, l[n-1].T
	}
	must, ok := slowSamples(c)
	want := api.OK
	if !ok {
		want = api.ErrText
	}
	got, e := gorilla.Samples(c)
	wantSamples(t, s, got, e, must, want)
	if e := gorilla.Check(c); e != want {
		t.Errorf("%s: Check: error %d, want %d", s, e, want)
	}
	return ok
}
