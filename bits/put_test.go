package bits_test

import (
	"math"
	"strings"
	"testing"

	"windrose/api"
	"windrose/bits"
)

func TestPut(t *testing.T) {
	wantPut(t, api.Bits{}, 0, 0, api.Bits{}, api.OK)
	wantPut(t, api.Bits{}, 1, 1, of("1"), api.OK)
	wantPut(t, api.Bits{}, 0, 1, of("0"), api.OK)
	wantPut(t, api.Bits{}, 5, 3, of("101"), api.OK)
	wantPut(t, api.Bits{}, 5, 8, of("00000101"), api.OK)
	wantPut(t, api.Bits{}, 5, 9, of("00000010 1"), api.OK)
	wantPut(t, of("101"), 6, 3, of("101110"), api.OK)
	wantPut(t, of("1010101"), 2, 2, of("10101011 0"), api.OK)
	wantPut(t, of("10101010"), 1, 1, of("10101010 1"), api.OK)
	wantPut(t, of("1"), 0x1FF, 9, of("11111111 11"), api.OK)
	wantPut(t, of("1"), math.MaxUint64, 64, full(65), api.OK)
	wantPut(t, full(64), math.MaxUint64, 64, full(128), api.OK)
	wantPut(t, of("0"), 1<<63, 64, of("01"+strings.Repeat("0", 63)), api.OK)
	wantPut(t, of("10"), 1, 0, of("10"), api.ErrArg)
	wantPut(t, of("10"), 2, 1, of("10"), api.ErrArg)
	wantPut(t, of("10"), 0, -1, of("10"), api.ErrArg)
	wantPut(t, of("10"), 0, 65, of("10"), api.ErrArg)
	wantPut(t, of("10"), 0, 64+3, of("10"), api.ErrArg)
	wantPut(t, of("10"), 8, 3, of("10"), api.ErrArg)
	wantPut(t, of("10"), 1<<63, 63, of("10"), api.ErrArg)
}

// words are numbers at the edges of so many bits.
func words(n int) []uint64 {
	l := []uint64{0, 1, 2, 5, 127, 128, 255, 256, 1<<63 - 1, 1 << 63, math.MaxUint64, 0xA5A5A5A5A5A5A5A5}
	if n >= 0 && n < 64 {
		l = append(l, 1<<n-1, 1<<n, 1<<n+1)
	}
	if n > 0 && n <= 64 {
		l = append(l, 1<<(n-1), 1<<(n-1)+1)
	}
	return l
}

func TestPutOfEachCount(t *testing.T) {
	for _, x := range small() {
		for n := -1; n <= 66; n++ {
			for _, u := range words(n) {
				must, f := slowPut(x, u, n)
				wantPut(t, x, u, n, must, f)
			}
		}
		for _, n := range edges() {
			for _, u := range words(n) {
				wantPut(t, x, u, n, x, api.ErrArg)
			}
		}
	}
}

func TestPutUpToTheMost(t *testing.T) {
	for _, room := range []int{0, 1, 2, 7, 8, 9, 63, 64, 65} {
		x := full(most - room)
		for _, n := range []int{0, 1, 2, 7, 8, 9, 62, 63, 64} {
			u := uint64(1)<<n - 1
			if n > room {
				wantPut(t, x, u, n, x, api.ErrFull)
			} else {
				wantPut(t, x, u, n, full(x.N+n), api.OK)
			}
			if n < 64 {
				wantPut(t, x, u+1, n, x, api.ErrArg) // ahead of ErrFull
			}
		}
		for _, n := range []int{-1, 65, math.MinInt, math.MaxInt} {
			wantPut(t, x, 0, n, x, api.ErrArg) // likewise
		}
	}
}

func TestPutOfBitsThatMayNotBe(t *testing.T) {
	for _, x := range wrongs() {
		for _, n := range []int{math.MinInt, -1, 0, 1, 8, 64, 65, math.MaxInt} {
			for _, u := range words(n) {
				wantPut(t, x, u, n, api.Bits{}, api.ErrArg)
			}
		}
	}
}

func TestPutOneBehindTheOther(t *testing.T) {
	c := chance(2463534242)
	for range 200 {
		x, s := api.Bits{}, ""
		for range 30 {
			n := c.below(65)
			u := c.word(n)
			must, _ := slowPut(of(s), u, n)
			wantPut(t, x, u, n, must, api.OK)
			x, _ = bits.Put(x, u, n)
			s = text(must)
		}
	}
}

// TestExample is the chapter's.
func TestExample(t *testing.T) {
	wantNumber(t, api.Bits{}, 0, of("0"), api.OK)
	wantNumber(t, of("0"), -1, of("0 1 0 0 0 0 0 0 0 1"), api.OK)
}

func TestNumber(t *testing.T) {
	for n, must := range map[int]string{
		0: "0", 1: "10 0000010", -1: "10 0000001", 2: "10 0000100", -2: "10 0000011", 63: "10 1111110", -64: "10 1111111",
		64: "110 000010000000", -65: "110 000010000001", 2047: "110 111111111110", -2048: "110 111111111111",
		2048: "1110 00000001000000000000", -2049: "1110 00000001000000000001", 524287: "1110 11111111111111111110", -524288: "1110 11111111111111111111",
		524288:        "1111" + strings.Repeat("0", 43) + "1" + strings.Repeat("0", 20),
		-524289:       "1111" + strings.Repeat("0", 43) + "1" + strings.Repeat("0", 19) + "1",
		math.MaxInt64: "1111" + strings.Repeat("1", 63) + "0",
		math.MinInt64: "1111" + strings.Repeat("1", 64),
	} {
		for _, ahead := range []string{"", "0", "1", "101", "1111111", "00000000", "11111111", "11111111 0"} {
			wantNumber(t, of(ahead), n, of(ahead+must), api.OK)
		}
	}
}

func TestNumberOfEach(t *testing.T) {
	for _, x := range small() {
		for _, n := range numbers() {
			must, f := slowNumber(x, n)
			wantNumber(t, x, n, must, f)
		}
	}
	c := chance(88172645463325252)
	for range 10000 {
		x, n := c.bits(c.below(40)), c.number()
		must, f := slowNumber(x, n)
		wantNumber(t, x, n, must, f)
	}
}

// TestNumberUpToTheMost: of each class where it just fits, and where it just does not.
func TestNumberUpToTheMost(t *testing.T) {
	for _, n := range []int{0, 1, -1, 63, -64, 64, -65, 2047, -2048, 2048, -2049, 524287, -524288, 524288, -524289, math.MaxInt, math.MinInt} {
		s := slowSigns(n)
		for _, room := range []int{0, 1, len(s) - 1, len(s), len(s) + 1} {
			for _, x := range []api.Bits{full(most - room), blank(most - room)} {
				if room < len(s) {
					wantNumber(t, x, n, x, api.ErrFull)
				} else {
					wantNumber(t, x, n, of(text(x)+s), api.OK)
				}
			}
		}
	}
}

func TestNumberOfBitsThatMayNotBe(t *testing.T) {
	for _, x := range wrongs() {
		for _, n := range numbers() {
			wantNumber(t, x, n, api.Bits{}, api.ErrArg)
		}
	}
}
