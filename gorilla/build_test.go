package gorilla_test

import (
	"fmt"
	"math"
	"slices"
	"strings"
	"testing"

	"windrose/api"
	"windrose/gorilla"
)

// TestExample: five samples of one value at one distance, three in a run.
func TestExample(t *testing.T) {
	wantBuilt(t, row(10, 5, 20, 5, 30, 5, 40, 5, 50, 5), chunk(5, 10, 50, "10 0010100 10 0001010 10 0010100 0 00 0010"))
}

// TestBuildKnown: bits that were put together by hand.
func TestBuildKnown(t *testing.T) {
	start := "0 0 10 0000010 0 " // (0, 0) and (1, 0)
	for _, c := range []struct {
		l    []api.Sample
		bits string
	}{
		{row(0, 0), "0 0"},
		{row(5, 0), "10 0001010 0"},
		{row(0, 5), "0 10 0001010"},
		{row(1, -1), "10 0000010 10 0000001"},
		{row(63, -64), "10 1111110 10 1111111"},
		{row(64, -65), "110 000010000000 110 000010000001"},
		{row(2047, -2048), "110 111111111110 110 111111111111"},
		{row(2048, -2049), "1110 00000001000000000000 1110 00000001000000000001"},
		{row(524287, -524288), "1110 11111111111111111110 1110 11111111111111111111"},
		{row(524288, 0), "1111 0000000000000000000000000000000000000000000100000000000000000000 0"},
		{row(0, 0, 1, 0), start},
		{row(0, 0, 1, 0, 2, 0), start + "00 0000"},
		{row(0, 0, 1, 0, 2, 0, 3, 0), start + "00 0001"},
		{row(0, 0, 1, 0, 3, 0), start + "10 0000010 0"},
		{row(0, 0, 1, 0, 2, 1), start + "0 10 0000010"},
		{row(0, 0, 1, 0, 2, 1, 3, 2), start + "0 10 0000010 00 0000"},
		{row(0, 0, 1, 0, 2, 0, 3, 0, 4, 1, 5, 2, 7, 3), start + "00 0001 0 10 0000010 00 0000 10 0000010 0"},
		{row(0, 0, 2, 0, 4, 0, 5, 0, 6, 0), "0 0 10 0000100 0 00 0000 10 0000001 0 00 0000"},
		{row(0, 3, 1, 0, 2, -3), "0 10 0000110 10 0000010 10 0000101 00 0000"},
		{row(0, 0, 1, 0, 2, 0, 3, 0, 4, 0, 5, 0, 6, 0, 7, 0, 8, 0, 9, 0), start + "00 0111"},
	} {
		wantBuilt(t, c.l, chunk(len(c.l), c.l[0].T, c.l[len(c.l)-1].T, c.bits))
	}
}

// TestBuildOfRuns: how many samples are told as one, at the third sample.
func TestBuildOfRuns(t *testing.T) {
	for n, tail := range map[int]string{
		1: "0000", 2: "0001", 3: "0010", 15: "1110", 16: "1111", 17: "1111 00 0000", 18: "1111 00 0001", 31: "1111 00 1110", 32: "1111 00 1111", 33: "1111 00 1111 00 0000",
		48: "1111 00 1111 00 1111", 49: "1111 00 1111 00 1111 00 0000", 62: "1111 00 1111 00 1111 00 1101",
	} {
		l := led(append([]int{0, 0, 1, 0}, still(n)...)...)
		wantBuilt(t, l, chunk(n+2, 0, n+1, "0 0 10 0000010 0 00"+tail))
		if n > 61 {
			continue
		}
		for _, b := range breaks() {
			nums := slices.Concat([]int{0, 0, 10, 0}, still(n), b)
			l := led(nums...)
			wantBuilt(t, l, chunk(n+3, 0, l[n+2].T, "0 0 10 0010100 0 00"+tail+signs(b[0])+signs(b[1])))
		}
	}
}

// TestNoRunAheadOfTheThird: two numbers that are 0 are told one by one there.
func TestNoRunAheadOfTheThird(t *testing.T) {
	wantBuilt(t, row(0, 0), chunk(1, 0, 0, "00"))
	wantBuilt(t, row(0, 0, 5, 0), chunk(2, 0, 5, "00 10 0001010 0"))
	wantBuilt(t, row(0, 0, 5, 0, 11, 0), chunk(3, 0, 11, "00 10 0001010 0 10 0000010 0"))
}

// TestHowMany: none, each number of samples that may be, and more.
func TestHowMany(t *testing.T) {
	for n := 1; n <= most; n++ {
		for _, l := range [][]api.Sample{even(n), rough(n), wild(n)} {
			c := built(t, l)
			if c.N != n || c.First != l[0].T || c.Last != l[n-1].T {
				t.Errorf("Build of %d: %d %d %d", n, c.N, c.First, c.Last)
			}
			wantBuilt(t, l, slowChunk(l))
		}
	}
	if c := built(t, even(64)); c.Bits.N != 15+9+9+1+4*6 {
		t.Errorf("64 at one distance: %d bits", c.Bits.N)
	}
	if c := built(t, wild(64)); c.Bits.N != 1+68+9+68+61*(1+68)+2*68 {
		t.Errorf("64 wild ones: %d bits", c.Bits.N)
	}
}

// TestBuildOfSamplesThatMayNotBe: and of none.
func TestBuildOfSamplesThatMayNotBe(t *testing.T) {
	for _, l := range wrongLists() {
		if slowRow(l) && len(l) > 0 {
			t.Fatalf("the test is wrong of %s", short(l))
		}
		c, e := gorilla.Build(l)
		wantChunk(t, fmt.Sprintf("Build(%s)", short(l)), c, e, api.Chunk{}, api.ErrArg)
	}
}

// TestBuildAtTheEdges: times and values at the bounds of layer 11, one inside, one outside.
func TestBuildAtTheEdges(t *testing.T) {
	for _, x := range edges() {
		for _, l := range [][]api.Sample{row(x, 0), row(0, x), row(x, x), row(x, 0, top, 0), row(0, 0, x, 0), row(0, x, 1, 0), row(0, 0, 1, x), row(0, -x, 1, x), row(0, 0, 1, 0, x, -1), row(0, 5, 1, 6, 2, x)} {
			if slowRow(l) {
				wantBuilt(t, l, slowChunk(l))
				continue
			}
			c, e := gorilla.Build(l)
			wantChunk(t, fmt.Sprintf("Build(%s)", short(l)), c, e, api.Chunk{}, api.ErrArg)
		}
	}
	for _, s := range row(-1, 0, top+1, 0, 0, top+1, 0, -top-1, math.MinInt, 0, math.MaxInt, 0) {
		c, e := gorilla.Build([]api.Sample{s})
		wantChunk(t, short(s), c, e, api.Chunk{}, api.ErrArg)
	}
	for _, s := range row(0, 0, top, 0, 0, top, 0, -top, top, top) {
		wantBuilt(t, []api.Sample{s}, slowChunk([]api.Sample{s}))
	}
}

// TestBuildBySlowReckoning holds all kinds of lists against the chapter's words.
func TestBuildBySlowReckoning(t *testing.T) {
	classes, runs := map[string]int{}, 0
	for _, l := range lists() {
		wantBuilt(t, l, slowChunk(l))
		for i, n := range slowNums(l) {
			classes[fmt.Sprint(i%2, slowClass(n))]++
		}
		runs += strings.Count(slowBits(l), "0000001111")
	}
	if len(classes) != 10 || runs < 20 {
		t.Errorf("%v, %d: too few to tell", classes, runs)
	}
}

// TestSame: each field is looked at, of chunks that may not be, too.
func TestSame(t *testing.T) {
	l := []api.Chunk{
		{}, {N: 1}, {N: -1}, {N: 65}, {First: 1}, {First: -1}, {Last: 1}, {Last: math.MinInt}, {N: 1, First: 1}, {N: 1, Last: 1}, {First: 1, Last: 1},
		{Bits: api.Bits{N: 1}}, {Bits: api.Bits{N: -1}}, {Bits: api.Bits{B: []byte{0}}}, {Bits: api.Bits{B: []byte{1}}}, {Bits: api.Bits{N: 1, B: []byte{0}}}, {Bits: api.Bits{N: 8, B: []byte{0}}}, {Bits: api.Bits{N: 8, B: []byte{0, 0}}},
		chunk(1, 0, 0, "00"), chunk(2, 0, 0, "00"), chunk(1, 1, 0, "00"), chunk(1, 0, 1, "00"), chunk(1, 0, 0, "000"), chunk(1, 0, 0, "0"), chunk(1, 0, 0, "01"), chunk(1, 0, 0, "10"),
	}
	for _, n := range []int{2, 3, 18, 64} {
		l = append(l, built(t, even(n)), built(t, rough(n)))
		c := built(t, wild(n))
		for at := range 8 {
			turned := chunk(c.N, c.First, c.Last, text(c.Bits))
			turned.Bits.B[at*(len(c.Bits.B)-1)/7] ^= 1 << (7 - at)
			if n > 3 {
				l = append(l, turned)
			}
		}
	}
	for i, a := range l {
		for j, b := range l {
			if gorilla.Same(a, b) != (i == j) {
				t.Errorf("Same(%s, %s): %v", short(whole(a)), short(whole(b)), i != j)
			}
		}
		c := a
		c.Bits.B = append([]byte{}, a.Bits.B...)
		if !gorilla.Same(a, c) || !gorilla.Same(c, a) {
			t.Errorf("Same of %s and a copy: false", short(whole(a)))
		}
	}
	if !gorilla.Same(api.Chunk{Bits: api.Bits{B: []byte{}}}, api.Chunk{}) {
		t.Error("Same of nil and the empty list: false")
	}
}
