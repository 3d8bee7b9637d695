package bits_test

import (
	"fmt"
	"math"
	"strings"
	"testing"

	"windrose/api"
	"windrose/bits"
)

const most = 1 << 17

// of are the bits of a text of noughts and ones; blanks in it count for nothing.
func of(s string) api.Bits {
	s = strings.ReplaceAll(s, " ", "")
	x := api.Bits{N: len(s)}
	for i, sign := range s {
		if i%8 == 0 {
			x.B = append(x.B, 0)
		}
		if sign == '1' {
			x.B[i/8] |= []byte{0x80, 0x40, 0x20, 0x10, 0x08, 0x04, 0x02, 0x01}[i%8]
		}
	}
	return x
}

// text are bits that may be, as a text of noughts and ones.
func text(x api.Bits) string {
	var s strings.Builder
	for _, b := range x.B {
		fmt.Fprintf(&s, "%08b", b)
	}
	return s.String()[:x.N]
}

// full is so many times the bit 1; blank so many times the bit 0.
func full(n int) api.Bits { return of(strings.Repeat("1", n)) }

func blank(n int) api.Bits { return of(strings.Repeat("0", n)) }

// whole is all that is to be seen of bits, as a text: nil and the empty list are alike.
func whole(x api.Bits) string { return fmt.Sprintf("%d %x", x.N, x.B) }

// short is the same, of bits that may be many, for a remark of a test.
func short(x api.Bits) string { return fmt.Sprintf("%.200s", whole(x)) }

// edges are numbers that are no place and no count: below 0, behind MaxBits, like a small one in their lowest bits, and at the edges of an int.
func edges() []int {
	return []int{-1, -2, -7, -8, -63, -64, -65, most + 1, most + 8, most + 64, 1 << 31, 1<<31 - 1, -1 << 31, 1 << 32, 1<<32 + 1, 1<<32 + 8, 1 << 62,
		math.MaxInt, math.MaxInt - 1, math.MaxInt - 6, math.MaxInt - 7, math.MaxInt - 8, math.MaxInt - 63, math.MaxInt - 64, math.MinInt, math.MinInt + 1, math.MinInt + 8, math.MinInt + 64}
}

// lengths are some of rows of bits, at whole and at broken bytes.
func lengths() []int {
	return []int{0, 1, 2, 7, 8, 9, 15, 16, 17, 31, 32, 33, 63, 64, 65, 71, 72, 73, 127, 128, 129, 200}
}

// rights are bits that may be.
func rights() []api.Bits {
	l := []api.Bits{{}, {B: []byte{}}, of("1"), of("0"), of("10"), of("1000000 0"), of("0000000 1"), of("00000000 1"), full(most), blank(most), full(most - 1), blank(most - 8)}
	c := chance(2463534242)
	for _, n := range lengths() {
		l = append(l, full(n), blank(n), c.bits(n))
	}
	return append(l, c.bits(most), c.bits(most-1), c.bits(most-7), c.bits(most-8), c.bits(most-9))
}

// small are those of them that are not too many.
func small() []api.Bits {
	var l []api.Bits
	for _, x := range rights() {
		if x.N <= 200 {
			l = append(l, x)
		}
	}
	return l
}

// wrongs are bits that may not be.
func wrongs() []api.Bits {
	l := []api.Bits{
		{N: 1}, {N: 7}, {N: 8}, {N: 9, B: make([]byte, 1)}, {N: 16, B: make([]byte, 1)}, {N: 17, B: make([]byte, 2)}, // a byte too few
		{N: 0, B: make([]byte, 1)}, {N: 1, B: make([]byte, 2)}, {N: 7, B: make([]byte, 2)}, {N: 8, B: make([]byte, 2)}, {N: 9, B: make([]byte, 3)}, // a byte too many
		{N: 8, B: make([]byte, 8)}, {N: 64, B: make([]byte, 64)}, {N: 16, B: []byte{255}}, {N: 0, B: []byte{1}},
		{N: most + 1, B: make([]byte, most/8+1)}, {N: most + 8, B: make([]byte, most/8+1)}, {N: 2 * most, B: make([]byte, most/4)},
		{N: most, B: make([]byte, most/8-1)}, {N: most, B: make([]byte, most/8+1)}, {N: most - 8, B: make([]byte, most/8)}, {N: most + 1, B: make([]byte, most/8)},
	}
	for _, n := range append(edges(), -3, -4, -5, -6) {
		l = append(l, api.Bits{N: n}, api.Bits{N: n, B: make([]byte, 1)}, api.Bits{N: n, B: []byte{0x80, 0}})
	}
	for _, n := range []int{1, 2, 3, 4, 5, 6, 7, 9, 15, 17, 65, most - 1, most - 7} {
		for _, behind := range []byte{1, 1 << (7 - n%8), 1<<(8-n%8) - 1} {
			none, all := blank(n), full(n)
			none.B[len(none.B)-1] |= behind
			all.B[len(all.B)-1] |= behind
			l = append(l, none, all)
		}
	}
	return l
}

// wantBits asks for bits that are told, and for the error beside.
func wantBits(t *testing.T, what string, got api.Bits, e api.Errno, must api.Bits, f api.Errno) {
	t.Helper()
	if whole(got) != whole(must) || e != f {
		t.Errorf("%s: error %d, want %d; %s, want %s", what, e, f, short(got), short(must))
	}
}

func wantGet(t *testing.T, x api.Bits, at, n int, must uint64, f api.Errno) {
	t.Helper()
	if u, e := bits.Get(x, at, n); u != must || e != f {
		t.Errorf("Get(%s, %d, %d): %d, error %d, want %d, error %d", short(x), at, n, u, e, must, f)
	}
}

func wantCut(t *testing.T, x api.Bits, at, n int, must api.Bits, f api.Errno) {
	t.Helper()
	got, e := bits.Cut(x, at, n)
	wantBits(t, fmt.Sprintf("Cut(%s, %d, %d)", short(x), at, n), got, e, must, f)
}

func wantPut(t *testing.T, x api.Bits, u uint64, n int, must api.Bits, f api.Errno) {
	t.Helper()
	got, e := bits.Put(x, u, n)
	wantBits(t, fmt.Sprintf("Put(%s, %d, %d)", short(x), u, n), got, e, must, f)
}

func wantNumber(t *testing.T, x api.Bits, n int, must api.Bits, f api.Errno) {
	t.Helper()
	got, e := bits.Number(x, n)
	wantBits(t, fmt.Sprintf("Number(%s, %d)", short(x), n), got, e, must, f)
}

func wantJoin(t *testing.T, a, b api.Bits, must api.Bits, f api.Errno) {
	t.Helper()
	got, e := bits.Join(a, b)
	wantBits(t, fmt.Sprintf("Join(%s, %s)", short(a), short(b)), got, e, must, f)
}

// wantStand asks where a reader stands, and how many bits are behind.
func wantStand(t *testing.T, what string, r *bits.Reader, at, left int) {
	t.Helper()
	if r.At() != at || r.Left() != left {
		t.Errorf("%s: At %d, Left %d, want %d, %d", what, r.At(), r.Left(), at, left)
	}
}

func wantTake(t *testing.T, what string, r *bits.Reader, n int, must uint64, f api.Errno) {
	t.Helper()
	if u, e := r.Take(n); u != must || e != f {
		t.Errorf("%s: Take(%d): %d, error %d, want %d, error %d", what, n, u, e, must, f)
	}
}

func wantNext(t *testing.T, what string, r *bits.Reader, must int, f api.Errno) {
	t.Helper()
	if n, e := r.Number(); n != must || e != f {
		t.Errorf("%s: Number: %d, error %d, want %d, error %d", what, n, e, must, f)
	}
}

func wantSeek(t *testing.T, what string, r *bits.Reader, at int, f api.Errno) {
	t.Helper()
	if e := r.Seek(at); e != f {
		t.Errorf("%s: Seek(%d): error %d, want %d", what, at, e, f)
	}
}

// chance is a row of numbers without a pattern, the same in each run.
type chance uint64

func (c *chance) next() uint64 {
	x := uint64(*c)
	x ^= x << 13
	x ^= x >> 7
	x ^= x << 17
	*c = chance(x)
	return x
}

func (c *chance) below(n int) int { return int(c.next() >> 33 % uint64(n)) }

// one is one of a list.
func one[T any](c *chance, l ...T) T { return l[c.below(len(l))] }

// bits are n of them.
func (c *chance) bits(n int) api.Bits {
	s := make([]byte, n)
	for i := range s {
		s[i] = '0' + byte(c.below(2))
	}
	return of(string(s))
}

// word is a number of n bits.
func (c *chance) word(n int) uint64 { return c.next() >> (64 - n) }

// number is one of any class, each as often as another one.
func (c *chance) number() int {
	if c.below(4) == 0 {
		return one(c, numbers()...)
	}
	u := c.word(one(c, 0, 3, 7, 9, 12, 15, 20, 21, 40, 64))
	n := int(u >> 1)
	if u&1 == 1 {
		return -1 - n
	}
	return n
}

// numbers are at the edges of the classes, and of an int.
func numbers() []int {
	return []int{0, 1, -1, 2, -2, 5, -5, 62, 63, 64, 65, -63, -64, -65, -66, 127, 128, -127, -128, -129, 255, 256, 2046, 2047, 2048, 2049, -2047, -2048, -2049, -2050, 4095, 4096, -4096, -4097,
		524286, 524287, 524288, 524289, -524287, -524288, -524289, -524290, 1<<20 - 1, 1 << 20, -1 << 20, -1<<20 - 1, 1<<31 - 1, 1 << 31, -1 << 31, -1<<31 - 1, 1 << 32, 1<<32 + 1, -1 << 32, -1<<32 - 1, 1 << 40, -1 << 40,
		1 << 53, 1 << 62, -1 << 62, 1<<62 - 1, -1<<62 - 1, math.MaxInt, math.MaxInt - 1, math.MinInt, math.MinInt + 1}
}
