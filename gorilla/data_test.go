package gorilla_test

import (
	"fmt"
	"slices"
	"testing"

	"windrose/api"
	"windrose/frame"
	"windrose/gorilla"
)

func TestDataKnown(t *testing.T) {
	d, e := gorilla.Encode(chunk(3, 0, 2, "0 0 10 0000010 0 00 0000"))
	if e != api.OK || !slices.Equal(d.Nums, []int{3, 0, 2, 18}) || !slices.Equal(d.Texts, []string{"\x20\x40\x00"}) {
		t.Errorf("Encode: %v, error %d", d, e)
	}
	d, e = gorilla.Encode(chunk(1, 1, 1, "10 0000010 10 0000001"))
	if e != api.OK || !slices.Equal(d.Nums, []int{1, 1, 1, 18}) || !slices.Equal(d.Texts, []string{"\x81\x40\x40"}) {
		t.Errorf("Encode: %v, error %d", d, e)
	}
	c, e := gorilla.Decode(api.Data{Nums: []int{1, 1, 1, 18}, Texts: []string{"\x81\x40\x40"}})
	wantChunk(t, "Decode", c, e, chunk(1, 1, 1, "10 0000010 10 0000001"), api.OK)
}

// TestEncodeAndDecode: the data of all kinds of chunks, by way of layer 2's bytes, too.
func TestEncodeAndDecode(t *testing.T) {
	for _, l := range lists() {
		c := slowChunk(l)
		d, e := gorilla.Encode(c)
		if e != api.OK || fmt.Sprint(d) != fmt.Sprint(dataOf(c)) {
			t.Errorf("Encode(%s): %s, error %d", short(whole(c)), short(d), e)
		}
		y, e := gorilla.Decode(d)
		wantChunk(t, "Decode of Encode", y, e, c, api.OK)
		b, e := frame.Encode(d)
		if e != api.OK {
			t.Fatalf("%s: error %d", short(whole(c)), e)
		}
		d, _ = frame.Decode(b)
		y, e = gorilla.Decode(d)
		wantChunk(t, "by way of bytes", y, e, c, api.OK)
	}
}

func wantText(t *testing.T, what string, d api.Data) {
	t.Helper()
	c, e := gorilla.Decode(d)
	wantChunk(t, fmt.Sprintf("%s: Decode(%s)", what, short(d)), c, e, api.Chunk{}, api.ErrText)
}

// some are few chunks of each kind.
func some() []api.Chunk {
	var l []api.Chunk
	for _, x := range [][]api.Sample{row(0, 0), row(1, -1), row(top, -top), even(2), even(3), even(20), even(64), rough(9), wild(5), led(0, 0, 7, 1, 0, 0, 0, 0, 5, 0, 0, 0)} {
		l = append(l, slowChunk(x))
	}
	return l
}

// TestDataCutAndLengthened: numbers, texts and bytes too few or too many, at each place.
func TestDataCutAndLengthened(t *testing.T) {
	wantText(t, "none", api.Data{})
	wantText(t, "a text alone", api.Data{Texts: []string{""}})
	wantText(t, "noughts", api.Data{Nums: []int{0, 0, 0, 0}, Texts: []string{""}})
	for _, c := range some() {
		d := dataOf(c)
		s := d.Texts[0]
		for i := range 5 {
			for _, n := range append(edges(), d.Nums[min(i, 3)]) {
				wantText(t, "a number more", api.Data{Nums: slices.Insert(slices.Clone(d.Nums), i, n), Texts: d.Texts})
			}
			if i < 4 {
				wantText(t, "a number less", api.Data{Nums: slices.Delete(slices.Clone(d.Nums), i, i+1), Texts: d.Texts})
			}
			wantText(t, "numbers cut", api.Data{Nums: d.Nums[:min(i, 3)], Texts: d.Texts})
		}
		for _, texts := range [][]string{nil, {}, {s, ""}, {"", s}, {s, s}, {""}, {s[:len(s)-1], s[len(s)-1:]}} {
			wantText(t, "texts", api.Data{Nums: d.Nums, Texts: texts})
		}
		for i := range len(s) + 1 {
			wantText(t, "cut", api.Data{Nums: d.Nums, Texts: []string{s[:min(i, len(s)-1)]}})
			for _, b := range []string{"\x00", "\xff", "\x80"} {
				wantText(t, "a byte more", api.Data{Nums: d.Nums, Texts: []string{s[:i] + b + s[i:]}})
			}
			if i < len(s) {
				wantText(t, "a byte less", api.Data{Nums: d.Nums, Texts: []string{s[:i] + s[i+1:]}})
			}
		}
	}
}

// TestDataTurned: each bit of the text, and each number turned into others.
func TestDataTurned(t *testing.T) {
	right := 0
	for _, c := range some() {
		d := dataOf(c)
		for i := range 8 * len(d.Texts[0]) {
			b := []byte(d.Texts[0])
			b[i/8] ^= 0x80 >> (i % 8)
			if wantDecode(t, api.Data{Nums: d.Nums, Texts: []string{string(b)}}) {
				right++
			}
		}
		for i := range d.Nums {
			for _, n := range append(edges(), d.Nums[i]-1, d.Nums[i]+1, -d.Nums[i], d.Nums[i]+8, d.Nums[i]-8, d.Nums[i]+1<<32) {
				nums := slices.Clone(d.Nums)
				if nums[i] = n; n != d.Nums[i] {
					wantText(t, "a number turned", api.Data{Nums: nums, Texts: d.Texts})
				}
			}
		}
	}
	if right < 10 {
		t.Errorf("%d right: too few to tell", right)
	}
}

// wantDecode holds Decode against the slow reckoning, and tells whether the data are a chunk's.
func wantDecode(t *testing.T, d api.Data) bool {
	t.Helper()
	c := api.Chunk{N: d.Nums[0], First: d.Nums[1], Last: d.Nums[2], Bits: api.Bits{N: d.Nums[3], B: []byte(d.Texts[0])}}
	if _, ok := slowSamples(c); !ok {
		wantText(t, "by the slow reckoning", d)
		return false
	}
	got, e := gorilla.Decode(d)
	wantChunk(t, short(d), got, e, c, api.OK)
	again, e := gorilla.Encode(got)
	if e != api.OK || fmt.Sprint(again) != fmt.Sprint(d) {
		t.Errorf("Encode of Decode(%s): %s, error %d", short(d), short(again), e)
	}
	return true
}
