package bits

import "windrose/api"

// shape is how the numbers of a class look: the bits that they begin with, and how many bits of u stand behind.
type shape struct {
	head  uint64
	heads int
	width int
}

// shapes are the classes' ones, the least class first: none begins as another one does.
var shapes = [...]shape{{0b0, 1, 0}, {0b10, 2, 7}, {0b110, 3, 12}, {0b1110, 4, 20}, {0b1111, 4, 64}}

func (s shape) size() int { return s.heads + s.width }

// spread is a number without a sign, small where n is near 0. Of n below 0, -2n - 1 is all bits of 2n turned, which the least number has, too.
func spread(n int) uint64 {
	twice := uint64(n) << 1
	if n < 0 {
		return ^twice
	}
	return twice
}

// gather is the number whose spread is u.
func gather(u uint64) int {
	half := int(u >> 1)
	if u&1 == 1 {
		return ^half
	}
	return half
}

// Class is a number's.
func Class(n int) int { return least(spread(n)) }

// least is the least class that there is for u; the last one is for all.
func least(u uint64) int {
	class := 0
	for u>>shapes[class].width != 0 {
		class++
	}
	return class
}

// Size is how many bits a number takes.
func Size(n int) int { return shapes[Class(n)].size() }

// Number is bits, and a number by its class.
func Number(x api.Bits, n int) (api.Bits, api.Errno) {
	if Check(x) != api.OK {
		return api.Bits{}, api.ErrArg
	}
	s := shapes[Class(n)]
	if !fits(x, s.size()) {
		return longer(x, 0), api.ErrFull
	}
	y := longer(x, s.size())
	lay(y.B, x.N, s.head, s.heads)
	lay(y.B, x.N+s.heads, spread(n), s.width)
	return y, api.OK
}

// numberAt is the number that stands at a bit, and how many bits it takes; false: there is none of its least class.
func numberAt(x api.Bits, at int) (int, int, bool) {
	class, ok := classAt(x, at)
	if !ok || !has(x, at, shapes[class].size()) {
		return 0, 0, false
	}
	s := shapes[class]
	u := word(x.B, at+s.heads, s.width)
	if least(u) != class {
		return 0, 0, false
	}
	return gather(u), s.size(), true
}

// classAt is the class as which a number begins at a bit; false: the bits that it would begin with are broken off.
func classAt(x api.Bits, at int) (int, bool) {
	for class, s := range shapes {
		if has(x, at, s.heads) && word(x.B, at, s.heads) == s.head {
			return class, true
		}
	}
	return 0, false
}
