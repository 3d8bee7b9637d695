package samples_test

import (
	"slices"
	"testing"

	"windrose/api"
	"windrose/samples"
)

// roomy is samples with known room behind their end.
func roomy(l []api.Sample) []api.Sample {
	all := slices.Concat(l, row(901, 902, 903, 904, 905, 906))
	return all[:len(l)]
}

// spoil turns all of a list, and the room behind its end.
func spoil(l []api.Sample) {
	for i := range l[:cap(l)] {
		l[:cap(l)][i] = api.Sample{T: 77777, V: -77777}
	}
}

// handed is what is handed in: no samples, some, as many as may be, and such as may not be.
func handed() [][]api.Sample {
	return append([][]api.Sample{
		nil, {}, row(0, 0), row(5, 5), row(5, 6), row(5, 5, 6, 7), row(10, 1, 20, 2, 30, 3), row(0, top, top, -top),
		even(most/2, 0, 1, 0), even(most-1, 0, 1, 0), even(most, 0, 1, 0), even(most, 1, 2, 0),
	}, wrong()...)
}

// puts are samples that are put: some that are there, other values, new ones, and one that may not be.
func puts() []api.Sample { return row(0, 0, 5, 5, 5, 6, 7, 7, top, 1, -1, 0) }

// bounds are times that Range and Trim are asked with.
func bounds() []int { return []int{-1, 0, 5, 6, 25, 1000, top + 1} }

// call is one with what it was handed bound to it.
type call func(a, b []api.Sample) []api.Sample

// calls are all that tell a list, each with all else that they are handed.
func calls() []call {
	l := []call{func(a, b []api.Sample) []api.Sample {
		got, _ := samples.Merge(a, b)
		return got
	}}
	for _, s := range puts() {
		l = append(l, func(a, _ []api.Sample) []api.Sample {
			got, _ := samples.Put(a, s)
			return got
		})
	}
	for _, from := range bounds() {
		l = append(l, func(a, _ []api.Sample) []api.Sample { return samples.Trim(a, from) })
		for _, to := range bounds() {
			l = append(l, func(a, _ []api.Sample) []api.Sample { return samples.Range(a, from, to) })
		}
	}
	return l
}

// each tries all calls on all that is handed in, on either side.
func each(try func(do call, a, b []api.Sample)) {
	for _, a := range handed() {
		for _, do := range calls() {
			try(do, a, a)
			try(do, a, row(5, 5, 8, 8))
			try(do, row(5, 5, 8, 8), a)
		}
		try(calls()[0], a, nil)
		try(calls()[0], nil, a)
		try(calls()[0], a, even(most, 1, 2, 0))
	}
}

// No call changes what it is handed, nor the room behind it.
func TestHandedInStays(t *testing.T) {
	each(func(do call, a, b []api.Sample) {
		a, b = roomy(a), roomy(b)
		first, second := slices.Clone(a[:cap(a)]), slices.Clone(b[:cap(b)])
		do(a, b)
		for _, at := range bounds() {
			samples.Get(a, at)
		}
		if !slices.Equal(a[:cap(a)], first) || !slices.Equal(b[:cap(b)], second) {
			t.Fatalf("what was handed in has changed: %s, %s", short(first), short(second))
		}
	})
}

// What is told shares no memory with what was handed in, its spare room neither: the one is spoilt, and the other stays.
func TestToldIsNew(t *testing.T) {
	each(func(do call, a, b []api.Sample) {
		a, b = roomy(a), roomy(b)
		first, second := slices.Clone(a[:cap(a)]), slices.Clone(b[:cap(b)])
		got := do(a, b)
		must := slices.Clone(got)
		spoil(got)
		if !slices.Equal(a[:cap(a)], first) || !slices.Equal(b[:cap(b)], second) {
			t.Fatalf("what is told of %s and %s is theirs", short(first), short(second))
		}
		got, other := do(a, b), do(a, b)
		spoil(a)
		spoil(b)
		if !slices.Equal(got, must) {
			t.Fatalf("what is told hangs on what was handed in: %s, and was %s", short(got), short(must))
		}
		spoil(got)
		if !slices.Equal(other, must) {
			t.Fatalf("two answers share memory: %s", short(must))
		}
	})
}

// Lists that lie in one piece of memory are merged as others are, and stay.
func TestMergeOfOneMemory(t *testing.T) {
	all := even(2*most, 0, 1, 4)
	was := slices.Clone(all)
	for from := range most {
		for to := from; to <= most; to++ {
			wantMerge(t, "one memory", all[:to], all[from:most], all[:most], api.OK)
			wantMerge(t, "a piece of it", all[:most], all[from:to], all[:most], api.OK)
		}
		wantMerge(t, "too much of it", all[:most], all[from+1:from+1+most], nil, api.ErrFull)
	}
	if !slices.Equal(all, was) {
		t.Error("what was handed in has changed")
	}
}

// A list grows by Put from one that has room: those told ahead stay as they were.
func TestToldAheadStays(t *testing.T) {
	var told [][]api.Sample
	l := make([]api.Sample, 0, 2*most)
	for i := range most {
		l, _ = samples.Put(l, api.Sample{T: (i * 37) % 101, V: i})
		told = append(told, l)
	}
	for i, l := range told {
		var must []api.Sample
		for j := range i + 1 {
			must = append(must, api.Sample{T: (j * 37) % 101, V: j})
		}
		if !slices.Equal(l, slowSort(must)) {
			t.Errorf("what was told at %d has changed: %s", i, short(l))
		}
	}
}

// A call tells the same whatever was asked ahead of it.
func TestAskedAgain(t *testing.T) {
	for range 3 {
		for _, l := range handed() {
			for _, s := range puts() {
				holdPut(t, "asked again", l, s)
			}
			holdTimes(t, "asked again", l, bounds()...)
			holdMerge(t, "asked again", l, row(5, 5, 8, 8))
		}
	}
}
