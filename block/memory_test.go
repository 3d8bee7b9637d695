package block_test

import (
	"slices"
	"testing"

	"windrose/api"
	"windrose/block"
)

// roomy is samples with known room behind their end.
func roomy(l []api.Sample) []api.Sample {
	all := slices.Concat(l, row(901, 902, 903, 904, 905, 906))
	return all[:len(l)]
}

// roomyNums is numbers with known room behind their end.
func roomyNums(nums []int) []int {
	all := slices.Concat(nums, []int{901, 902, 903, 904})
	return all[:len(nums)]
}

// lists are some that may be, and some that may not.
func lists() [][]api.Sample {
	return [][]api.Sample{
		nil, row(5, 5), row(5, 5, 6, 7), even(3, 10, 10, 5), row(1, 1, 2, 4, 4, 9, 8, 16), even(most, 0, 3, -top),
		row(-1, 0), row(5, 0, 5, 0), row(6, 0, 5, 0), row(1, 0, 2, top+1), even(most+1, 0, 1, 0),
	}
}

// No call changes what it is handed, nor the room behind it.
func TestHandedInStays(t *testing.T) {
	for _, l := range lists() {
		a, b := roomy(l), roomy(l)
		was := slices.Clone(a[:cap(a)])
		block.Check(a)
		block.Pack(a)
		block.Bytes(a)
		block.Same(a, b)
		if !slices.Equal(a[:cap(a)], was) || !slices.Equal(b[:len(b)+3], was[:len(l)+3]) {
			t.Errorf("what was handed in has changed: %s", short(was))
		}
		for _, texts := range [][]string{nil, {"a", "b"}} {
			d := api.Data{Nums: roomyNums(slowNums(l)), Texts: texts}
			nums := slices.Clone(d.Nums[:cap(d.Nums)])
			block.Unpack(d)
			if !slices.Equal(d.Nums[:cap(d.Nums)], nums) || len(texts) > 0 && !slices.Equal(texts, []string{"a", "b"}) {
				t.Errorf("data that were handed in have changed: %s", short(nums))
			}
		}
	}
}

// What Pack tells shares no memory with the samples, nor with another answer.
func TestPackIsNew(t *testing.T) {
	for _, l := range lists() {
		if !slowMayBe(l) {
			continue
		}
		must := slowNums(l)
		a := roomy(l)
		d, _ := block.Pack(a)
		other, _ := block.Pack(a)
		for i := range a[:cap(a)] {
			a[:cap(a)][i] = api.Sample{T: 77, V: 77}
		}
		if !slices.Equal(d.Nums, must) {
			t.Errorf("Pack of %s hangs on what was handed in", short(l))
		}
		clear(d.Nums[:cap(d.Nums)])
		if !slices.Equal(other.Nums, must) {
			t.Errorf("two answers of Pack of %s share memory", short(l))
		}
		if again, _ := block.Pack(l); !slices.Equal(again.Nums, must) {
			t.Errorf("Pack of %s keeps what it told", short(l))
		}
	}
}

// What Unpack tells shares no memory with the data, nor with another answer.
func TestUnpackIsNew(t *testing.T) {
	for _, l := range lists() {
		if !slowMayBe(l) {
			continue
		}
		d := api.Data{Nums: roomyNums(slowNums(l))}
		got, _ := block.Unpack(d)
		other, _ := block.Unpack(d)
		clear(d.Nums[:cap(d.Nums)])
		if !slices.Equal(got, l) {
			t.Errorf("Unpack of %s hangs on what was handed in", short(l))
		}
		for i := range got[:cap(got)] {
			got[:cap(got)][i] = api.Sample{T: 77, V: 77}
		}
		if !slices.Equal(other, l) {
			t.Errorf("two answers of Unpack of %s share memory", short(l))
		}
		wantUnpack(t, "told again", data(slowNums(l)...), l)
	}
}

// A call tells the same whatever was asked ahead of it.
func TestAskedAgain(t *testing.T) {
	all := lists()
	for range 3 {
		for _, l := range all {
			wantCheck(t, "asked again", l, slowMayBe(l))
		}
		wantText(t, "asked again", data(1))
	}
}
