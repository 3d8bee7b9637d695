package gorilla_test

import (
	"fmt"
	"slices"
	"testing"

	"windrose/api"
	"windrose/gorilla"
)

// roomy is a list with room behind its end, in which something stands.
func roomy[T any](l []T, behind T) []T {
	all := append(slices.Clone(l), behind, behind, behind, behind, behind)
	return all[:len(l)]
}

func roomyChunk(c api.Chunk) api.Chunk {
	c.Bits.B = roomy(c.Bits.B, 0x77)
	return c
}

func roomyData(d api.Data) api.Data {
	return api.Data{Nums: roomy(d.Nums, 77), Texts: roomy(d.Texts, "behind")}
}

// all is a list with the room behind its end.
func all[T any](l []T) []T { return l[:cap(l)] }

// seen is all that is to be seen of a chunk, with the room behind its end.
func seen(c api.Chunk) string { return fmt.Sprint(whole(c), all(c.Bits.B)) }

// spoil turns all of a list, and the room behind its end.
func spoil[T any](l []T, with T) {
	for i := range all(l) {
		all(l)[i] = with
	}
}

// rows are samples that are handed in, such as may be and such as may not.
func rows() [][]api.Sample {
	return [][]api.Sample{nil, row(0, 0), row(5, 5), even(3), even(20), rough(9), even(63), rough(64), even(64), wild(64), even(65), row(5, 0, 5, 0), row(-1, 0)}
}

// chunks are some that are handed in, such as may be and such as may not.
func chunks() []api.Chunk {
	return append(some(), slowChunk(rough(63)), slowChunk(rough(64)), api.Chunk{}, chunk(3, 0, 2, "0 0 10 0000010 0 0 0"), chunk(2, 0, 9, "0 0 10 0000010 0"), chunk(65, 0, 9, "0010101"), api.Chunk{N: 1, Bits: api.Bits{N: 2, B: []byte{0, 0}}})
}

// TestNothingHandedInIsChanged: neither the lists, nor what lies behind their end.
func TestNothingHandedInIsChanged(t *testing.T) {
	for _, l := range rows() {
		a := roomy(l, api.Sample{T: 901, V: 902})
		before := slices.Clone(all(a))
		gorilla.Build(a)
		if !slices.Equal(all(a), before) {
			t.Fatalf("Build(%s): they have changed", short(l))
		}
	}
	for _, c := range chunks() {
		a, b := roomyChunk(c), roomyChunk(c)
		before := slices.Clone(all(a.Bits.B))
		gorilla.Samples(a)
		gorilla.Check(a)
		for _, s := range row(c.Last+1, 0, c.Last, 0, -1, 0, top, top) {
			gorilla.Append(a, s)
		}
		gorilla.Slice(a, c.First, c.Last)
		gorilla.Same(a, b)
		x := gorilla.Open(a)
		x.Next()
		x.Skip(c.Last)
		gorilla.Encode(a)
		d := roomyData(dataOf(c))
		nums, texts := slices.Clone(all(d.Nums)), slices.Clone(all(d.Texts))
		gorilla.Decode(d)
		if !slices.Equal(all(a.Bits.B), before) || !slices.Equal(all(b.Bits.B), before) || !slices.Equal(all(d.Nums), nums) || !slices.Equal(all(d.Texts), texts) {
			t.Fatalf("%s: it has changed", short(whole(c)))
		}
	}
}

// wantNewChunk asks that a chunk that is told shares no memory with what was handed in, nor with another answer.
func wantNewChunk(t *testing.T, what string, call func() api.Chunk, spoilHanded func(), handed func() string) {
	t.Helper()
	one, two := call(), call()
	must, before := seen(two), handed()
	spoil(one.Bits.B, 0x55)
	if seen(two) != must || handed() != before {
		t.Errorf("%s: an answer that is spoilt spoils more", what)
	}
	spoilHanded()
	if seen(two) != must {
		t.Errorf("%s: what was handed in is spoilt, and the answer is, too", what)
	}
}

// TestChunksAreNewMemory: also those beside an error.
func TestChunksAreNewMemory(t *testing.T) {
	for _, l := range rows() {
		a := roomy(l, api.Sample{T: 901, V: 902})
		call := func() api.Chunk { c, _ := gorilla.Build(a); return c }
		wantNewChunk(t, "Build", call, func() { spoil(a, api.Sample{T: 5, V: 5}) }, func() string { return fmt.Sprint(all(a)) })
	}
	for _, c := range chunks() {
		for _, s := range row(c.Last+1, 0, c.Last, 0, -1, 0, top, top) {
			a := roomyChunk(c)
			call := func() api.Chunk { y, _ := gorilla.Append(a, s); return y }
			wantNewChunk(t, "Append", call, func() { spoil(a.Bits.B, 0x99) }, func() string { return seen(a) })
		}
		d := roomyData(dataOf(c))
		call := func() api.Chunk { y, _ := gorilla.Decode(d); return y }
		wantNewChunk(t, "Decode", call, func() { spoil(d.Nums, 5); spoil(d.Texts, "5") }, func() string { return fmt.Sprint(all(d.Nums), all(d.Texts)) })
	}
}

// TestSamplesAreNewMemory: those of Samples and of Slice.
func TestSamplesAreNewMemory(t *testing.T) {
	for _, c := range chunks() {
		for i, call := range []func(c api.Chunk) []api.Sample{
			func(c api.Chunk) []api.Sample { l, _ := gorilla.Samples(c); return l },
			func(c api.Chunk) []api.Sample { l, _ := gorilla.Slice(c, c.First, c.Last); return l },
			func(c api.Chunk) []api.Sample { l, _ := gorilla.Slice(c, c.First+1, c.Last+1); return l },
		} {
			a := roomyChunk(c)
			one, two := call(a), call(a)
			must, before := slices.Clone(two), seen(a)
			spoil(one, api.Sample{T: 77, V: 77})
			if !slices.Equal(two, must) || seen(a) != before {
				t.Errorf("call %d of %s: an answer that is spoilt spoils more", i, short(whole(c)))
			}
			spoil(a.Bits.B, 0x99)
			if !slices.Equal(two, must) || !slices.Equal(call(roomyChunk(c)), must) {
				t.Errorf("call %d of %s: it hangs on what was spoilt", i, short(whole(c)))
			}
		}
	}
}

// TestDataAreNewMemory: those of Encode.
func TestDataAreNewMemory(t *testing.T) {
	for _, c := range chunks() {
		a := roomyChunk(c)
		one, _ := gorilla.Encode(a)
		two, _ := gorilla.Encode(a)
		must := fmt.Sprint(two)
		spoil(one.Nums, 77)
		spoil(one.Texts, "77")
		spoil(a.Bits.B, 0x99)
		if fmt.Sprint(two) != must {
			t.Errorf("Encode(%s): it hangs on what was spoilt", short(whole(c)))
		}
	}
}

// TestACursorKeepsACopy: what it was handed is spoilt, and it goes on.
func TestACursorKeepsACopy(t *testing.T) {
	for _, l := range rows() {
		if len(l) == 0 || !slowRow(l) {
			continue
		}
		a := roomyChunk(slowChunk(l))
		x := gorilla.Open(a)
		for i, s := range l {
			spoil(a.Bits.B, byte(i))
			if i%2 == 0 {
				wantNext(t, short(l), x, s, true)
			} else {
				wantSkip(t, short(l), x, s.T, s, true)
			}
		}
		wantNone(t, short(l), x)
	}
}

// TestAskedAgain: a call tells the same whatever was asked ahead of it, and whatever stands behind the end of what it is handed.
func TestAskedAgain(t *testing.T) {
	for range 2 {
		for _, c := range chunks() {
			for _, y := range []api.Chunk{c, roomyChunk(c)} {
				if l, ok := slowSamples(y); ok {
					wantRight(t, y, l)
					wantAppend(t, l, api.Sample{T: 0}, api.ErrOld)
				} else {
					wantWrong(t, "asked again", y)
				}
			}
		}
	}
}
