package bits_test

import (
	"math/big"
	"slices"
	"strings"
	"testing"

	"windrose/api"
	"windrose/bits"
)

func wantCheck(t *testing.T, x api.Bits, may bool) {
	t.Helper()
	if e := bits.Check(x); e == api.OK != may || e != api.OK && e != api.ErrArg {
		t.Errorf("Check(%s): error %d, want that it may be: %v", short(x), e, may)
	}
}

func TestCheck(t *testing.T) {
	for _, x := range rights() {
		wantCheck(t, x, true)
	}
	for _, x := range wrongs() {
		wantCheck(t, x, false)
	}
	wantCheck(t, api.Bits{N: 7, B: []byte{0xFE}}, true)
	wantCheck(t, api.Bits{N: 7, B: []byte{0xFF}}, false)
	wantCheck(t, api.Bits{N: 8, B: []byte{0xFF}}, true)
	wantCheck(t, api.Bits{N: 9, B: []byte{0xFF, 0x80}}, true)
	wantCheck(t, api.Bits{N: 9, B: []byte{0xFF, 0x40}}, false)
	wantCheck(t, api.Bits{N: most, B: slices.Repeat([]byte{0xFF}, 16384)}, true)
	wantCheck(t, api.Bits{N: most + 1, B: make([]byte, 16385)}, false)
}

// TestCheckOfEachByte tries all lengths to three bytes with all counts of bytes to four, and each last byte.
func TestCheckOfEachByte(t *testing.T) {
	for n := -9; n <= 25; n++ {
		for many := range 5 {
			for last := range 256 {
				x := api.Bits{N: n, B: slices.Repeat([]byte{0xA5}, many)}
				if many > 0 {
					x.B[many-1] = byte(last)
				}
				wantCheck(t, x, slowMay(x))
			}
		}
	}
}

// TestCheckOfAllLengths holds each N with as many bytes as it needs, with one less, and with one more.
func TestCheckOfAllLengths(t *testing.T) {
	room := make([]byte, most/8+2)
	for n := 0; n <= most+8; n++ {
		needs := n / 8
		if n%8 != 0 {
			needs++
		}
		for many := max(needs-1, 0); many <= needs+1; many++ {
			wantCheck(t, api.Bits{N: n, B: room[:many]}, n <= most && many == needs)
		}
	}
}

func TestCount(t *testing.T) {
	for _, x := range slices.Concat(rights(), wrongs()) {
		if got, must := bits.Count(x), slowCount(x); got != must {
			t.Errorf("Count(%s): %d, want %d", short(x), got, must)
		}
	}
	for s, must := range map[string]int{"": 0, "0": 0, "1": 1, "10000000 1": 2, "11111111": 8, "11111111 1": 9, "0 1000 0001": 2} {
		if got := bits.Count(of(s)); got != must {
			t.Errorf("Count(%s): %d, want %d", s, got, must)
		}
	}
	for b := range 256 {
		x := api.Bits{N: 16, B: []byte{byte(b), byte(255 - b)}}
		if got := bits.Count(x); got != 8 {
			t.Errorf("Count(%s): %d, want 8", short(x), got)
		}
	}
	if bits.Count(full(most)) != most || bits.Count(full(most-1)) != most-1 {
		t.Error("Count of the greatest rows")
	}
	if bits.Count(api.Bits{N: most + 1, B: slices.Repeat([]byte{255}, 16385)}) != 0 || bits.Count(api.Bits{N: 8, B: []byte{255, 255}}) != 0 || bits.Count(api.Bits{N: 3, B: []byte{255}}) != 0 {
		t.Error("Count of bits that may not be")
	}
}

// unlike are bits no two of which are alike, some of which may not be.
func unlike() []api.Bits {
	var l []api.Bits
	for _, n := range append(edges(), 0, 1, 2, 7, 8, 9, 16) {
		for _, b := range [][]byte{nil, {0}, {1}, {0x80}, {0, 0}, {0x80, 0}, {0x80, 0x80}, {0, 0x80}, {0, 0, 0}} {
			l = append(l, api.Bits{N: n, B: b})
		}
	}
	return append(l, full(most), full(most-1), blank(most), api.Bits{N: most, B: make([]byte, most/8-1)})
}

func TestSame(t *testing.T) {
	l := unlike()
	for i, a := range l {
		for j, b := range l {
			if got := bits.Same(a, b); got != (i == j) {
				t.Errorf("Same(%s, %s): %v", short(a), short(b), got)
			}
		}
	}
	for _, x := range slices.Concat(rights(), wrongs(), l) {
		if !bits.Same(x, api.Bits{N: x.N, B: slices.Clone(x.B)}) {
			t.Errorf("Same(%s) of itself: false", short(x))
		}
	}
	if !bits.Same(api.Bits{}, api.Bits{B: []byte{}}) || !bits.Same(api.Bits{B: []byte{}}, api.Bits{}) || !bits.Same(api.Bits{N: 5}, api.Bits{N: 5, B: []byte{}}) {
		t.Error("Same of the empty list and none: false")
	}
}

// TestSameOfOneBit: bits that differ in one alone are not alike, nor are they with one nought less or more.
func TestSameOfOneBit(t *testing.T) {
	c := chance(88172645463325252)
	for _, n := range lengths() {
		x := c.bits(n)
		s := text(x)
		for i, sign := range s {
			turned := "1"
			if sign == '1' {
				turned = "0"
			}
			other := s[:i] + turned + s[i+1:]
			if bits.Same(x, of(other)) || bits.Same(of(other), x) {
				t.Errorf("Same(%s, %s)", s, other)
			}
		}
		if bits.Same(x, of(s+"0")) || bits.Same(of(s+"0"), x) || n > 0 && bits.Same(x, of(s[1:])) {
			t.Errorf("Same(%s) of one more or less", s)
		}
	}
}

func TestClassAndSize(t *testing.T) {
	sizes := []int{1, 9, 15, 24, 68}
	for class, l := range [][]int{
		{0}, {1, -1, 2, -2, 62, 63, -63, -64}, {64, 65, -65, -66, 2046, 2047, -2047, -2048}, {2048, -2049, 524286, 524287, -524287, -524288},
		{524288, 524289, -524289, -524290, 1 << 31, -1 << 31, 1 << 32, -1 << 32, 1<<63 - 1, -1 << 63},
	} {
		for _, n := range l {
			if bits.Class(n) != class || bits.Size(n) != sizes[class] {
				t.Errorf("of %d: class %d, size %d, want %d, %d", n, bits.Class(n), bits.Size(n), class, sizes[class])
			}
		}
	}
	tried := numbers()
	c := chance(2463534242)
	for range 20000 {
		tried = append(tried, c.number())
	}
	for _, n := range tried {
		class := slowClass(n)
		if bits.Class(n) != class || bits.Size(n) != sizes[class] || bits.Size(n) != len(slowSigns(n)) {
			t.Errorf("of %d: class %d, size %d, want %d, %d", n, bits.Class(n), bits.Size(n), class, sizes[class])
		}
	}
}

// TestClassOfAllSmallNumbers goes over the edges of the classes 0 to 3, number by number.
func TestClassOfAllSmallNumbers(t *testing.T) {
	count := map[int]int{}
	for n := -600000; n <= 600000; n++ {
		count[bits.Class(n)]++
	}
	must := map[int]int{0: 1, 1: 127, 2: 4096 - 128, 3: 1<<20 - 4096, 4: 1200001 - 1<<20}
	for class := range 5 {
		if count[class] != must[class] {
			t.Errorf("%d numbers of class %d, want %d", count[class], class, must[class])
		}
	}
}

// TestSlowReckoning holds the slow reckoning against what the chapter's words tell of some numbers, bit by bit.
func TestSlowReckoning(t *testing.T) {
	for n, must := range map[int]string{
		0: "0", -1: "10 0000001", 1: "10 0000010", 63: "10 1111110", -64: "10 1111111", 64: "110 000010000000", -65: "110 000010000001", -2048: "110 111111111111",
		2048: "1110 00000001000000000000", -524288: "1110 11111111111111111111", 524288: "1111" + strings.Repeat("0", 43) + "100000000000000000000",
		-1 << 63: "1111" + strings.Repeat("1", 64), 1<<63 - 1: "1111" + strings.Repeat("1", 63) + "0",
	} {
		if got := slowSigns(n); got != strings.ReplaceAll(must, " ", "") {
			t.Errorf("%d: %s, want %s", n, got, must)
		}
	}
	if s, ok := digits(big.NewInt(5), 4); s != "0101" || !ok {
		t.Errorf("digits: %s", s)
	}
	if _, ok := digits(big.NewInt(16), 4); ok {
		t.Error("digits: too many")
	}
}
