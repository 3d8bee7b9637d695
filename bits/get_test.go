package bits_test

import (
	"math"
	"slices"
	"testing"

	"windrose/api"
	"windrose/bits"
)

func TestGet(t *testing.T) {
	x := of("10110010 11110000 01")
	wantGet(t, x, 0, 1, 1, api.OK)
	wantGet(t, x, 1, 1, 0, api.OK)
	wantGet(t, x, 0, 3, 5, api.OK)
	wantGet(t, x, 0, 8, 0xB2, api.OK)
	wantGet(t, x, 1, 8, 0x65, api.OK)
	wantGet(t, x, 7, 2, 1, api.OK)
	wantGet(t, x, 6, 6, 0x2F, api.OK)
	wantGet(t, x, 8, 8, 0xF0, api.OK)
	wantGet(t, x, 0, 18, 0x2CBC1, api.OK)
	wantGet(t, x, 17, 1, 1, api.OK)
	wantGet(t, x, 16, 2, 1, api.OK)
	wantGet(t, x, 18, 0, 0, api.OK)
	wantGet(t, x, 18, 1, 0, api.ErrArg)
	wantGet(t, x, 17, 2, 0, api.ErrArg)
	wantGet(t, x, 0, 19, 0, api.ErrArg)
	wantGet(t, x, -1, 1, 0, api.ErrArg)
	wantGet(t, full(64), 0, 64, math.MaxUint64, api.OK)
	wantGet(t, full(65), 1, 64, math.MaxUint64, api.OK)
	wantGet(t, full(64), 0, 63, math.MaxUint64/2, api.OK)
	wantGet(t, full(65), 0, 65, 0, api.ErrArg)
	wantGet(t, full(most), most-64, 64, math.MaxUint64, api.OK)
	wantGet(t, full(most), most-63, 64, 0, api.ErrArg)
	wantGet(t, full(most), most-1, 1, 1, api.OK)
	wantGet(t, full(most), most, 1, 0, api.ErrArg)
}

// places are where bits are asked for, of so many as there are.
func places(n int) []int {
	return append(edges(), 0, 1, 2, 7, 8, 9, 63, 64, 65, n-65, n-64, n-63, n-9, n-8, n-7, n-2, n-1, n, n+1, n+2)
}

// counts are how many are asked for.
func counts(n int) []int {
	return append(edges(), 0, 1, 2, 7, 8, 9, 15, 16, 17, 62, 63, 64, 65, 66, n-1, n, n+1)
}

func TestGetOfAllPlaces(t *testing.T) {
	for _, x := range small() {
		for _, at := range places(x.N) {
			for _, n := range counts(x.N) {
				must, f := slowGet(x, at, n)
				wantGet(t, x, at, n, must, f)
			}
		}
	}
	c := chance(88172645463325252)
	for _, many := range []int{0, 1, 7, 8, 9, 16, 70, 90} {
		x := c.bits(many)
		for at := -2; at <= many+2; at++ {
			for n := -2; n <= 66; n++ {
				must, f := slowGet(x, at, n)
				wantGet(t, x, at, n, must, f)
			}
		}
	}
}

// TestGetOfMany asks for bits at the end of as many as may be.
func TestGetOfMany(t *testing.T) {
	c := chance(2463534242)
	x := c.bits(most)
	s := text(x)
	for at := most - 80; at <= most; at++ {
		for n := 0; n <= 64; n++ {
			if at+n > most {
				wantGet(t, x, at, n, 0, api.ErrArg)
			} else {
				wantGet(t, x, at, n, value(s[at:at+n]), api.OK)
			}
		}
	}
	for range 5000 {
		at, n := c.below(most-64), c.below(65)
		wantGet(t, x, at, n, value(s[at:at+n]), api.OK)
	}
}

func TestGetOfBitsThatMayNotBe(t *testing.T) {
	for _, x := range wrongs() {
		for _, at := range append(edges(), 0, 1, 8) {
			for _, n := range append(edges(), 0, 1, 8, 64, 65) {
				wantGet(t, x, at, n, 0, api.ErrArg)
			}
		}
	}
}

// TestNoBitsAreThereAnywhere: of no bits none is missing, wherever they are asked for.
func TestNoBitsAreThereAnywhere(t *testing.T) {
	for _, x := range small() {
		for _, at := range append(places(x.N), -1, x.N, x.N+1) {
			wantGet(t, x, at, 0, 0, api.OK)
			wantCut(t, x, at, 0, api.Bits{}, api.OK)
		}
	}
}

func TestCut(t *testing.T) {
	x := of("10110010 11110000 01")
	wantCut(t, x, 0, 18, x, api.OK)
	wantCut(t, x, 0, 8, of("10110010"), api.OK)
	wantCut(t, x, 0, 7, of("1011001"), api.OK)
	wantCut(t, x, 0, 9, of("10110010 1"), api.OK)
	wantCut(t, x, 1, 8, of("01100101"), api.OK)
	wantCut(t, x, 8, 10, of("11110000 01"), api.OK)
	wantCut(t, x, 7, 11, of("01111000 001"), api.OK)
	wantCut(t, x, 17, 1, of("1"), api.OK)
	wantCut(t, x, 0, 0, api.Bits{}, api.OK)
	wantCut(t, x, 18, 0, api.Bits{}, api.OK)
	wantCut(t, x, 18, 1, x, api.ErrArg)
	wantCut(t, x, 0, 19, x, api.ErrArg)
	wantCut(t, x, -1, 1, x, api.ErrArg)
	wantCut(t, x, -1, 19, x, api.ErrArg)
	wantCut(t, x, 0, -1, x, api.ErrArg)
	wantCut(t, x, 5, -5, x, api.ErrArg)
	wantCut(t, full(most), 0, most, full(most), api.OK)
	wantCut(t, full(most), 1, most-1, full(most-1), api.OK)
	wantCut(t, full(most), 1, most, full(most), api.ErrArg)
	wantCut(t, full(most), 5, math.MaxInt, full(most), api.ErrArg)
	wantCut(t, full(most), math.MaxInt, math.MaxInt, full(most), api.ErrArg)
	wantCut(t, full(most), math.MaxInt, 1, full(most), api.ErrArg)
	wantCut(t, full(most), math.MinInt, math.MinInt, full(most), api.ErrArg)
}

func TestCutOfAllPlaces(t *testing.T) {
	for _, x := range small() {
		for _, at := range places(x.N) {
			for _, n := range counts(x.N) {
				must, f := slowCut(x, at, n)
				wantCut(t, x, at, n, must, f)
			}
		}
	}
	c := chance(88172645463325252)
	for _, many := range []int{0, 1, 7, 8, 9, 24, 130} {
		x := c.bits(many)
		for at := -2; at <= many+2; at++ {
			for n := -2; n <= many+2; n++ {
				must, f := slowCut(x, at, n)
				wantCut(t, x, at, n, must, f)
			}
		}
	}
}

func TestCutOfMany(t *testing.T) {
	c := chance(2463534242)
	x := c.bits(most - 3)
	for range 20 {
		at := c.below(x.N)
		n := c.below(x.N - at + 3)
		must, f := slowCut(x, at, n)
		wantCut(t, x, at, n, must, f)
	}
}

func TestCutOfBitsThatMayNotBe(t *testing.T) {
	for _, x := range wrongs() {
		for _, at := range []int{math.MinInt, -1, 0, 1, 8, math.MaxInt} {
			for _, n := range []int{math.MinInt, -1, 0, 1, 8, 64, 65, math.MaxInt} {
				wantCut(t, x, at, n, api.Bits{}, api.ErrArg)
			}
		}
	}
}

// TestJoinOfCuts: what is cut at each place is, joined, what it was.
func TestJoinOfCuts(t *testing.T) {
	for _, x := range small() {
		for at := range x.N + 1 {
			a, e := bits.Cut(x, 0, at)
			b, f := bits.Cut(x, at, x.N-at)
			if e != api.OK || f != api.OK {
				t.Fatalf("Cut(%s) at %d: errors %d, %d", short(x), at, e, f)
			}
			wantJoin(t, a, b, x, api.OK)
		}
	}
}

func TestJoin(t *testing.T) {
	wantJoin(t, api.Bits{}, api.Bits{}, api.Bits{}, api.OK)
	wantJoin(t, api.Bits{}, of("1"), of("1"), api.OK)
	wantJoin(t, of("1"), api.Bits{}, of("1"), api.OK)
	wantJoin(t, of("10"), of("01"), of("1001"), api.OK)
	wantJoin(t, of("01"), of("10"), of("0110"), api.OK)
	wantJoin(t, of("11111111"), of("00000001"), of("11111111 00000001"), api.OK)
	wantJoin(t, of("1111111"), of("01"), of("11111110 1"), api.OK)
	wantJoin(t, of("1111111"), of("10000000 1"), of("11111111 00000001"), api.OK)
	wantJoin(t, full(most), api.Bits{}, full(most), api.OK)
	wantJoin(t, api.Bits{}, full(most), full(most), api.OK)
	wantJoin(t, full(most-1), of("1"), full(most), api.OK)
	wantJoin(t, of("1"), full(most-1), full(most), api.OK)
	wantJoin(t, full(most/2), full(most/2), full(most), api.OK)
	wantJoin(t, full(most), of("0"), full(most), api.ErrFull)
	wantJoin(t, of("0"), full(most), of("0"), api.ErrFull)
	wantJoin(t, full(most-1), of("00"), full(most-1), api.ErrFull)
	wantJoin(t, full(most/2), full(most/2+1), full(most/2), api.ErrFull)
	wantJoin(t, full(most), blank(most), full(most), api.ErrFull)
	wantJoin(t, blank(most-8), of("10100000"), of(text(blank(most-8))+"10100000"), api.OK)
	wantJoin(t, blank(most-8), of("10100000 0"), blank(most-8), api.ErrFull)
}

func TestJoinOfAll(t *testing.T) {
	for _, a := range small() {
		for _, b := range small() {
			must, f := slowJoin(a, b)
			wantJoin(t, a, b, must, f)
		}
	}
	c := chance(88172645463325252)
	for n := range 20 {
		for m := range 140 {
			a, b := c.bits(n), c.bits(m)
			wantJoin(t, a, b, of(text(a)+text(b)), api.OK)
			wantJoin(t, b, a, of(text(b)+text(a)), api.OK)
		}
	}
	for range 10 {
		a, b := c.bits(c.below(most)), c.bits(c.below(most))
		must, f := slowJoin(a, b)
		wantJoin(t, a, b, must, f)
	}
}

func TestJoinOfBitsThatMayNotBe(t *testing.T) {
	for _, x := range wrongs() {
		for _, y := range []api.Bits{{}, of("1"), full(64), full(most)} {
			wantJoin(t, x, y, api.Bits{}, api.ErrArg)
			wantJoin(t, y, x, api.Bits{}, api.ErrArg)
		}
		for _, y := range slices.Concat(wrongs()[:20], []api.Bits{x}) {
			wantJoin(t, x, y, api.Bits{}, api.ErrArg)
		}
	}
}
