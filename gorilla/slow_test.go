package gorilla_test

import (
	"fmt"
	"math/big"
	"strings"

	"windrose/api"
)

// slowRow tells whether samples may be, by the words of layer 11: each pair of them is looked at.
func slowRow(l []api.Sample) bool {
	if len(l) > most {
		return false
	}
	for i, s := range l {
		if s.T < 0 || s.T > top || s.V < -top || s.V > top {
			return false
		}
		for _, later := range l[i+1:] {
			if later.T <= s.T {
				return false
			}
		}
	}
	return true
}

// slowU is the u of a number, in big numbers.
func slowU(n int) *big.Int {
	u := new(big.Int).Mul(big.NewInt(int64(n)), big.NewInt(2))
	if n < 0 {
		u.Neg(u)
		u.Sub(u, big.NewInt(1))
	}
	return u
}

// heads and widths are the classes' first bits, and how many u has.
func heads() []string { return []string{"0", "10", "110", "1110", "1111"} }

func widths() []int { return []int{0, 7, 12, 20, 64} }

// slowClass is a number's class.
func slowClass(n int) int {
	for class, width := range widths() {
		if slowU(n).BitLen() <= width {
			return class
		}
	}
	return -1
}

// slowSigns are a number's bits in a class, be it its own or a greater one.
func slowSigns(n, class int) string {
	if class == 0 {
		return heads()[0]
	}
	return heads()[class] + fmt.Sprintf("%0*s", widths()[class], slowU(n).Text(2))
}

// signs are a number's bits in its own class.
func signs(n int) string { return slowSigns(n, slowClass(n)) }

// slowNums is the numbers of samples that may be, but how many there are: of the first two what the words say of them, of each further one the second difference written out.
func slowNums(l []api.Sample) []int {
	var nums []int
	for i, s := range l {
		switch i {
		case 0:
			nums = append(nums, s.T, s.V)
		case 1:
			nums = append(nums, s.T-l[0].T, s.V-l[0].V)
		default:
			nums = append(nums, s.T-2*l[i-1].T+l[i-2].T, s.V-2*l[i-1].V+l[i-2].V)
		}
	}
	return nums
}

// slowBits are samples as bits, as a text: all of those that stand still one behind the other are gathered, and told at the end of their row.
func slowBits(l []api.Sample) string {
	var s strings.Builder
	nums, waiting := slowNums(l), 0
	tell := func() {
		for waiting > 0 {
			run := min(waiting, 16)
			fmt.Fprintf(&s, "00%04b", run-1)
			waiting -= run
		}
	}
	for i := range l {
		if i >= 2 && nums[2*i] == 0 && nums[2*i+1] == 0 {
			waiting++
			continue
		}
		tell()
		s.WriteString(signs(nums[2*i]) + signs(nums[2*i+1]))
	}
	tell()
	return s.String()
}

// slowChunk is the chunk of samples that may be, one of them at least.
func slowChunk(l []api.Sample) api.Chunk {
	return chunk(len(l), l[0].T, l[len(l)-1].T, slowBits(l))
}

// slowNumber is the number that a text begins with, in any class, and how many signs it has; 0: there is none.
func slowNumber(s string) (*big.Int, int) {
	for class, head := range heads() {
		size := len(head) + widths()[class]
		if !strings.HasPrefix(s, head) || len(s) < size {
			continue
		}
		u := new(big.Int)
		for _, sign := range s[len(head):size] {
			u.Add(u.Lsh(u, 1), big.NewInt(int64(sign-'0')))
		}
		if u.Bit(0) == 1 {
			u.Neg(u.Add(u, big.NewInt(1)))
		}
		return u.Div(u, big.NewInt(2)), size
	}
	return nil, 0
}

// slowHeard are the numbers that n samples would have by a text, be they told as they must be or not; nil: it is too short.
func slowHeard(s string, n int) []*big.Int {
	nums := []*big.Int{}
	for len(nums) < 2*n {
		t, size := slowNumber(s)
		v, more := slowNumber(s[size:])
		if size == 0 || more == 0 {
			return nil
		}
		s = s[size+more:]
		nums = append(nums, t, v)
		if len(nums) > 4 && t.Sign() == 0 && v.Sign() == 0 {
			if len(s) < 4 {
				return nil
			}
			for range strings.Index("0000 0001 0010 0011 0100 0101 0110 0111 1000 1001 1010 1011 1100 1101 1110 1111", s[:4]) / 5 {
				nums = append(nums, new(big.Int), new(big.Int))
			}
			s = s[4:]
		}
	}
	return nums[:2*n]
}

// slowLed are the samples that numbers lead to; false: not all are of an int.
func slowLed(nums []*big.Int) ([]api.Sample, bool) {
	var l []api.Sample
	sums, steps := [2]*big.Int{new(big.Int), new(big.Int)}, [2]*big.Int{new(big.Int), new(big.Int)}
	for i := range nums {
		own := new(big.Int).Set(nums[i])
		if i > 3 {
			own.Add(own, steps[i%2])
		}
		steps[i%2] = own
		sums[i%2].Add(sums[i%2], own)
		if !sums[i%2].IsInt64() {
			return nil, false
		}
		if i%2 == 1 {
			l = append(l, api.Sample{T: int(sums[0].Int64()), V: int(sums[1].Int64())})
		}
	}
	return l, true
}

// slowHear are the samples of n that would be heard of a text of noughts and ones; false: none that may be.
func slowHear(s string, n int) ([]api.Sample, bool) {
	nums := slowHeard(s, n)
	if nums == nil {
		return nil, false
	}
	l, ok := slowLed(nums)
	return l, ok && slowRow(l)
}

// slowSamples are a chunk's samples; false: it may not be, for it is no chunk of those that are heard.
func slowSamples(c api.Chunk) ([]api.Sample, bool) {
	if c.N < 1 || c.N > most || c.Bits.N < 0 || c.Bits.N > 8*len(c.Bits.B) {
		return nil, false
	}
	l, ok := slowHear(text(c.Bits), c.N)
	if !ok || whole(slowChunk(l)) != whole(c) {
		return nil, false
	}
	return l, true
}

// slowCursor is a cursor: samples, and how many are passed.
type slowCursor struct {
	l      []api.Sample
	passed int
}

func (x *slowCursor) next() (api.Sample, bool) {
	if x.passed == len(x.l) {
		return api.Sample{}, false
	}
	x.passed++
	return x.l[x.passed-1], true
}

func (x *slowCursor) skip(t int) (api.Sample, bool) {
	for i := x.passed; i < len(x.l); i++ {
		if x.l[i].T >= t {
			x.passed = i + 1
			return x.l[i], true
		}
	}
	x.passed = len(x.l)
	return api.Sample{}, false
}
