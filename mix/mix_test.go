package mix_test

import (
	"encoding/binary"
	"math"
	"math/big"
	"slices"
	"strings"
	"testing"

	"windrose/mix"
)

const top = math.MaxUint64

// slowMix mixes by big numbers and bit by bit, as the chapter's words say it.
func slowMix(x uint64) uint64 {
	x = slowCross(x)
	x = slowTimes(x)
	x = slowCross(x)
	x = slowTimes(x)
	return slowCross(x)
}

func slowCross(x uint64) uint64 {
	n := new(big.Int).SetUint64(x)
	return n.Xor(n, new(big.Int).Rsh(n, 32)).Uint64()
}

func slowTimes(x uint64) uint64 {
	by, _ := new(big.Int).SetString("D6E8FEB86659FD93", 16)
	return wrap(by.Mul(by, new(big.Int).SetUint64(x)))
}

func wrap(n *big.Int) uint64 {
	return n.Mod(n, new(big.Int).Lsh(big.NewInt(1), 64)).Uint64()
}

func slowFold(seed uint64, l []uint64) uint64 {
	state := slowMix(seed)
	for _, n := range l {
		sum, _ := new(big.Int).SetString("9E3779B97F4A7C15", 16)
		state = slowMix(wrap(sum.Add(sum, new(big.Int).SetUint64(state^n))))
	}
	return state
}

func slowText(seed uint64, s string) uint64 {
	b := []byte(s)
	l := []uint64{uint64(len(b))}
	for len(b)%8 != 0 {
		b = append(b, 0)
	}
	for ; len(b) > 0; b = b[8:] {
		l = append(l, binary.LittleEndian.Uint64(b))
	}
	return slowFold(seed, l)
}

// numbers are edges, each bit alone, all bits below it, all but it, and a row without a pattern.
func numbers() []uint64 {
	l := []uint64{0, 1, 2, 99, 1<<31 - 1, 1 << 31, 1<<32 - 1, 1 << 32, 1<<63 - 1, 1 << 63, top, top - 1}
	for i := range 64 {
		bit := uint64(1) << i
		l = append(l, bit, bit-1, top^bit)
	}
	x := uint64(88172645463325252)
	for range 500 {
		x ^= x << 13
		x ^= x >> 7
		x ^= x << 17
		l = append(l, x)
	}
	return l
}

func TestMixKnown(t *testing.T) {
	for _, c := range []struct{ x, want uint64 }{
		{0, 0},
		{1, 0x4179b061e0c0e0d0},
		{2, 0x1c9963305febc252},
		{99, 0xd087a0782150be5a},
		{1 << 31, 0x25716a8621f298ed},
		{1<<32 - 1, 0x41c6aec41b1456d1},
		{1 << 32, 0xa04a6aae1526eda6},
		{1 << 63, 0x72446bbcf6c799d7},
		{top, 0x448e29ced4103459},
		{0x0123456789abcdef, 0x3efdea49c590f4ec},
	} {
		if got := mix.Mix(c.x); got != c.want {
			t.Errorf("Mix(%#x): %#x, not %#x", c.x, got, c.want)
		}
		if got := mix.Unmix(c.want); got != c.x {
			t.Errorf("Unmix(%#x): %#x, not %#x", c.want, got, c.x)
		}
	}
}

func TestMixAsSaid(t *testing.T) {
	for _, x := range numbers() {
		if got, want := mix.Mix(x), slowMix(x); got != want {
			t.Errorf("Mix(%#x): %#x, not %#x", x, got, want)
		}
	}
}

func TestMixIsOneToOne(t *testing.T) {
	for _, x := range numbers() {
		if got := mix.Unmix(mix.Mix(x)); got != x {
			t.Errorf("Unmix(Mix(%#x)): %#x", x, got)
		}
		if got := mix.Mix(mix.Unmix(x)); got != x {
			t.Errorf("Mix(Unmix(%#x)): %#x", x, got)
		}
	}
	seen := map[uint64]uint64{}
	for i := range uint64(1 << 15) {
		for _, x := range []uint64{i, i<<32 | 1<<63} {
			m := mix.Mix(x)
			if y, ok := seen[m]; ok && y != x {
				t.Fatalf("Mix(%#x) and Mix(%#x): both %#x", x, y, m)
			}
			seen[m] = x
		}
	}
}

func TestFoldKnown(t *testing.T) {
	for _, c := range []struct {
		seed uint64
		l    []uint64
		want uint64
	}{
		{0, nil, 0},
		{1, nil, 0x4179b061e0c0e0d0},
		{top, nil, 0x448e29ced4103459},
		{0, []uint64{0}, 0x4e17cf67001b3979},
		{1, []uint64{2}, 0x574f2f234b99d855},
		{1, []uint64{2, 3}, 0x9b482ab9e791f127},
		{1, []uint64{3, 2}, 0xc17627a1b6b0cd5b},
		{7, []uint64{top, 0, 1 << 63}, 0x05e8b88c4f9f172f},
	} {
		if got := mix.Fold(c.seed, c.l...); got != c.want {
			t.Errorf("Fold(%#x, %#x): %#x, not %#x", c.seed, c.l, got, c.want)
		}
	}
}

func TestFoldOfNoNumbers(t *testing.T) {
	for _, seed := range numbers() {
		want := slowMix(seed)
		if mix.Fold(seed) != want || mix.Fold(seed, nil...) != want || mix.Fold(seed, []uint64{}...) != want {
			t.Errorf("Fold(%#x) is not the seed, mixed", seed)
		}
	}
}

func TestFoldAsSaid(t *testing.T) {
	l := numbers()
	for n := range 40 {
		for _, seed := range []uint64{0, 1, top, l[n]} {
			if got, want := mix.Fold(seed, l[n:2*n]...), slowFold(seed, l[n:2*n]); got != want {
				t.Errorf("Fold(%#x, %#x): %#x, not %#x", seed, l[n:2*n], got, want)
			}
		}
	}
	if got, want := mix.Fold(3, l...), slowFold(3, l); got != want {
		t.Errorf("Fold of %d numbers: %#x, not %#x", len(l), got, want)
	}
}

func TestFoldLeavesItsList(t *testing.T) {
	room := []uint64{5, 6, 7, 8, 9}
	first := mix.Fold(4, room[:3]...)
	if !slices.Equal(room, []uint64{5, 6, 7, 8, 9}) {
		t.Errorf("the list, or the room behind it, is %v now", room)
	}
	if again := mix.Fold(4, room[:3]...); again != first {
		t.Errorf("Fold: %#x, then %#x", first, again)
	}
}

func TestTextKnown(t *testing.T) {
	for _, c := range []struct {
		seed uint64
		s    string
		want uint64
	}{
		{0, "", 0x4e17cf67001b3979},
		{5, "", 0xff20b3505970e743},
		{0, "a", 0xd159b581e3e6f4a7},
		{0, "ab", 0x6be8ab3b4a8d4a65},
		{0, "ba", 0xac1188b6fdb57d6b},
		{0, "abcdefg", 0xc880683a0df4ec7e},
		{0, "abcdefgh", 0xfe0fb1b6bea3e016},
		{0, "abcdefghi", 0x4fc4fcefcea4f857},
		{0, "abcdefg\x00", 0xb999d2a0a407cc4c},
		{0, "abcdefgh\x00", 0xf4450e355f4cd9d3},
		{0, "\x00", 0x2f3378c0a33bfb45},
		{0, "\x00\x00\x00\x00\x00\x00\x00\x00", 0x0874d3d941d764a0},
		{0, "\x00\x00\x00\x00\x00\x00\x00\x00\x00", 0x2f9c56398c995f02},
		{3, "\xff\xff\xff\xff\xff\xff\xff\xff", 0x09646fd467268592},
		{3, "Größe €", 0x09f2545032a08462},
		{9, "the quick brown fox jumps", 0x5f56927306068322},
	} {
		if got := mix.Text(c.seed, c.s); got != c.want {
			t.Errorf("Text(%d, %q): %#x, not %#x", c.seed, c.s, got, c.want)
		}
	}
}

func TestTextAsSaid(t *testing.T) {
	all := make([]byte, 600)
	for i := range all {
		all[i] = byte(i * 7)
	}
	for n := range 80 {
		for _, seed := range []uint64{0, 1, top} {
			for _, s := range []string{string(all[n : 2*n]), strings.Repeat("\x00", n), strings.Repeat("\xff", n)} {
				if got, want := mix.Text(seed, s), slowText(seed, s); got != want {
					t.Errorf("Text(%#x, %q): %#x, not %#x", seed, s, got, want)
				}
			}
		}
	}
	if got, want := mix.Text(2, string(all)), slowText(2, string(all)); got != want {
		t.Errorf("Text of %d bytes: %#x, not %#x", len(all), got, want)
	}
}

func TestTextNoughtsAtTheEndCount(t *testing.T) {
	for _, s := range []string{"", "a", "abcdefg", "abcdefgh", "abcdefghi", "abcdefghijklmnop"} {
		seen := map[uint64]int{}
		for n := range 20 {
			sum := mix.Text(1, s+strings.Repeat("\x00", n))
			if m, ok := seen[sum]; ok {
				t.Errorf("%q with %d and with %d noughts: both %#x", s, m, n, sum)
			}
			seen[sum] = n
		}
	}
}

func TestTextsThatDifferInOnePiece(t *testing.T) {
	for n := 1; n <= 33; n++ {
		s := []byte(strings.Repeat("k\x00\xffzQ", 7))[:n]
		sum := mix.Text(6, string(s))
		for i := range s {
			for by := 1; by < 256; by++ {
				other := slices.Clone(s)
				other[i] ^= byte(by)
				other[i-i%8] ^= byte(by >> 3)
				if string(other) != string(s) && mix.Text(6, string(other)) == sum {
					t.Errorf("%q and %q: both %#x", s, other, sum)
				}
			}
		}
	}
}

func TestBelowKnown(t *testing.T) {
	for _, c := range []struct {
		x    uint64
		n    int
		want int
	}{
		{top, 10, 9},
		{0, 10, 0},
		{1 << 63, 10, 5},
		{1<<63 - 1, 10, 4},
		{1 << 32, 10, 0},
		{1<<32 - 1, math.MaxInt32, 0},
		{1 << 32, math.MaxInt32, 0},
		{3 << 32, math.MaxInt32, 1},
		{1 << 62, 4, 1},
		{1<<62 - 1, 4, 0},
		{top, 1, 0},
		{top, 2, 1},
		{1 << 63, 2, 1},
		{1<<63 - 1, 2, 0},
		{top, 1<<31 - 1, 1<<31 - 2},
		{1 << 63, 1<<31 - 1, 1<<30 - 1},
		{top, 1<<31 - 2, 1<<31 - 3},
	} {
		if got := mix.Below(c.x, c.n); got != c.want {
			t.Errorf("Below(%#x, %d): %d, not %d", c.x, c.n, got, c.want)
		}
	}
}

func TestBelowOfWrongNumbers(t *testing.T) {
	for _, x := range numbers() {
		for _, n := range []int{0, -1, -2, -10, math.MinInt32, math.MinInt, math.MinInt + 1, 1 << 31, 1<<31 + 1, 1<<32 - 1, 1 << 32, 1<<32 + 10, 1 << 62, math.MaxInt} {
			if got := mix.Below(x, n); got != 0 {
				t.Errorf("Below(%#x, %d): %d, not 0", x, n, got)
			}
		}
	}
}

func TestBelowIsBelow(t *testing.T) {
	for _, x := range numbers() {
		for _, n := range []int{1, 2, 3, 7, 10, 12, 255, 256, 1 << 16, 1<<30 + 1, 1<<31 - 2, 1<<31 - 1} {
			got := mix.Below(x, n)
			if got < 0 || got >= n {
				t.Errorf("Below(%#x, %d): %d", x, n, got)
			}
			want := new(big.Int).SetUint64(x >> 32)
			want.Rsh(want.Mul(want, big.NewInt(int64(n))), 32)
			if want.Int64() != int64(got) {
				t.Errorf("Below(%#x, %d): %d, not %d", x, n, got, want)
			}
		}
	}
}
