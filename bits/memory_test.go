package bits_test

import (
	"fmt"
	"math"
	"slices"
	"testing"

	"windrose/api"
	"windrose/bits"
)

// roomy is a copy of bits with room behind their end, in which something stands.
func roomy(x api.Bits) api.Bits {
	b := append(slices.Clone(x.B), 0x77, 0x78, 0x79, 0x7A, 0x7B, 0x7C, 0x7D, 0x7E, 0x7F, 0x77)
	return api.Bits{B: b[:len(x.B)], N: x.N}
}

// all are the bytes of bits, with the room behind their end.
func all(x api.Bits) []byte { return x.B[:cap(x.B)] }

// spoil turns all of a list, and the room behind its end.
func spoil(x api.Bits) {
	for i := range all(x) {
		all(x)[i] ^= 0xFF
	}
}

// handed are bits that are handed in, such as may be and such as may not.
func handed() []api.Bits {
	l := append(small(), full(most), blank(most-1))
	for _, x := range wrongs() {
		if len(x.B) < 100 {
			l = append(l, x)
		}
	}
	return l
}

// calls are all that tell bits, done or refused, by what they are handed.
func calls() []func(a, b api.Bits) api.Bits {
	first := func(x api.Bits, _ api.Errno) api.Bits { return x }
	var l []func(a, b api.Bits) api.Bits
	for _, n := range []int{-1, 0, 1, 8, 13, 64, 65} {
		for _, u := range []uint64{0, 1, 5, math.MaxUint64} {
			l = append(l, func(a, _ api.Bits) api.Bits { return first(bits.Put(a, u, n)) })
		}
		for _, at := range []int{-1, 0, 1, 8} {
			l = append(l, func(a, _ api.Bits) api.Bits { return first(bits.Cut(a, at, n)) })
		}
	}
	for _, n := range []int{0, 1, -65, 5000, math.MinInt} {
		l = append(l, func(a, _ api.Bits) api.Bits { return first(bits.Number(a, n)) })
	}
	l = append(l, func(a, _ api.Bits) api.Bits { return first(bits.Cut(a, 0, a.N)) })
	return append(l, func(a, b api.Bits) api.Bits { return first(bits.Join(a, b)) })
}

// others are bits that are handed in beside, so that Join is done, and refused.
func others() []api.Bits {
	return []api.Bits{{}, of("1"), of("10110010 11110000"), full(most), {N: 3}}
}

// TestNothingHandedInIsChanged: neither the bytes, nor what lies behind their end.
func TestNothingHandedInIsChanged(t *testing.T) {
	for _, x := range handed() {
		for _, other := range others() {
			a, b := roomy(x), roomy(other)
			before, beside := slices.Clone(all(a)), slices.Clone(all(b))
			for _, call := range calls() {
				call(a, b)
				call(b, a)
				call(a, a)
			}
			bits.Check(a)
			bits.Get(a, 0, 8)
			bits.Get(a, 3, 64)
			bits.Count(a)
			bits.Same(a, b)
			r := bits.Read(a)
			r.Take(5)
			r.Number()
			r.Seek(0)
			if !slices.Equal(all(a), before) || !slices.Equal(all(b), beside) {
				t.Fatalf("%s and %s: they have changed", short(x), short(other))
			}
		}
	}
}

// TestWhatStandsBehindTheEndCountsForNothing: answers are the same with and without room behind the lists.
func TestWhatStandsBehindTheEndCountsForNothing(t *testing.T) {
	for _, x := range handed() {
		for _, other := range others() {
			for i, call := range calls() {
				if got, must := call(roomy(x), roomy(other)), call(x, other); whole(got) != whole(must) {
					t.Fatalf("call %d of %s: %s, want %s", i, short(x), short(got), short(must))
				}
			}
		}
	}
}

// TestAnswersAreNewMemory: what is told shares no memory with what was handed in, nor with another answer; spare room counts. So it is beside an error, too.
func TestAnswersAreNewMemory(t *testing.T) {
	seen := 0
	for _, x := range handed() {
		for _, other := range others() {
			for i, call := range calls() {
				a, b := roomy(x), roomy(other)
				one, two := call(a, b), call(a, b)
				must := whole(two)
				before, beside := slices.Clone(all(a)), slices.Clone(all(b))
				spoil(one)
				if whole(two) != must || !slices.Equal(all(a), before) || !slices.Equal(all(b), beside) {
					t.Fatalf("call %d of %s: an answer that is spoilt spoils more", i, short(x))
				}
				spoil(a)
				spoil(b)
				if whole(two) != must {
					t.Fatalf("call %d of %s: what is handed in is spoilt, and the answer is, too", i, short(x))
				}
				seen += len(all(two))
			}
		}
	}
	if seen < 10000 {
		t.Errorf("%d: too few to tell", seen)
	}
}

// TestAReaderKeepsACopy: what it was handed is spoilt, and it reads on.
func TestAReaderKeepsACopy(t *testing.T) {
	for _, x := range rights() {
		a := roomy(x)
		r, other := bits.Read(a), bits.Read(a)
		spoil(a)
		u, e := r.Take(min(x.N, 64))
		must, f := bits.Get(x, 0, min(x.N, 64))
		if u != must || e != f {
			t.Errorf("%s: %d, error %d, want %d, error %d", short(x), u, e, must, f)
		}
		wantStand(t, "the one", r, min(x.N, 64), x.N-min(x.N, 64))
		wantStand(t, "the other one", other, 0, x.N)
	}
}

// TestAnswersHangOnArgumentsAlone: what was told is not changed by a later call, and the same is told again.
func TestAnswersHangOnArgumentsAlone(t *testing.T) {
	for _, x := range handed() {
		var ahead []api.Bits
		var told []string
		for _, call := range calls() {
			y := call(x, of("110"))
			ahead, told = append(ahead, y), append(told, fmt.Sprint(whole(y), all(y)))
		}
		for i, call := range calls() {
			if y := call(x, of("110")); fmt.Sprint(whole(y), all(y)) != told[i] || fmt.Sprint(whole(ahead[i]), all(ahead[i])) != told[i] {
				t.Fatalf("call %d of %s: unlike answers", i, short(x))
			}
		}
	}
}
