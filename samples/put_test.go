package samples_test

import (
	"fmt"
	"slices"
	"testing"

	"windrose/api"
	"windrose/samples"
)

func TestExample(t *testing.T) {
	l, e := samples.Put(nil, api.Sample{T: 5, V: 1})
	if e != api.OK || !slices.Equal(l, row(5, 1)) {
		t.Fatalf("Put = %v, %d", l, e)
	}
	if l, e = samples.Put(l, api.Sample{T: 5, V: 2}); e != api.ErrOther || !slices.Equal(l, row(5, 1)) {
		t.Errorf("Put of another value = %v, %d", l, e)
	}
}

func TestPutKnown(t *testing.T) {
	three := row(10, 1, 20, 2, 30, 3)
	for _, c := range []struct {
		what string
		l    []api.Sample
		t, v int
		must []api.Sample
		e    api.Errno
	}{
		{"into nil", nil, 5, 1, row(5, 1), api.OK},
		{"into the empty list", []api.Sample{}, 5, 1, row(5, 1), api.OK},
		{"into none, all noughts", nil, 0, 0, row(0, 0), api.OK},
		{"the greatest into none", nil, top, top, row(top, top), api.OK},
		{"the least into none", nil, 0, -top, row(0, -top), api.OK},
		{"first of two", row(5, 1), 4, 1, row(4, 1, 5, 1), api.OK},
		{"last of two", row(5, 1), 6, 1, row(5, 1, 6, 1), api.OK},
		{"first", three, 0, -7, row(0, -7, 10, 1, 20, 2, 30, 3), api.OK},
		{"just ahead of the first", three, 9, 1, row(9, 1, 10, 1, 20, 2, 30, 3), api.OK},
		{"between", three, 11, 1, row(10, 1, 11, 1, 20, 2, 30, 3), api.OK},
		{"between the last two", three, 29, 9, row(10, 1, 20, 2, 29, 9, 30, 3), api.OK},
		{"last", three, 31, 0, row(10, 1, 20, 2, 30, 3, 31, 0), api.OK},
		{"the greatest time", three, top, 0, row(10, 1, 20, 2, 30, 3, top, 0), api.OK},
		{"the first, that stands there", three, 10, 1, three, api.ErrSame},
		{"one between, that stands there", three, 20, 2, three, api.ErrSame},
		{"the last, that stands there", three, 30, 3, three, api.ErrSame},
		{"another first value", three, 10, 2, three, api.ErrOther},
		{"another value between", three, 20, -2, three, api.ErrOther},
		{"another last value", three, 30, 0, three, api.ErrOther},
		{"a value that may not be at a time that is there", three, 20, top + 1, three, api.ErrArg},
		{"a time that may not be", three, -1, 0, three, api.ErrArg},
		{"a time behind the greatest", three, top + 1, 0, three, api.ErrArg},
		{"a value below the least", three, 15, -top - 1, three, api.ErrArg},
		{"one that may not be, into none", nil, -1, 0, nil, api.ErrArg},
	} {
		wantPut(t, c.what, c.l, api.Sample{T: c.t, V: c.v}, c.must, c.e)
	}
}

// Into so many samples each further one is put at each place; of 64 there is no room, and other errors come ahead of that.
func TestPutPlaces(t *testing.T) {
	for n := range most + 1 {
		l := even(n, 1, 2, 7)
		what := fmt.Sprint("into ", n)
		for at := range n + 1 {
			s := api.Sample{T: 2 * at, V: 3}
			if n == most {
				wantPut(t, what, l, s, l, api.ErrFull)
			} else {
				wantPut(t, what, l, s, slices.Insert(slices.Clone(l), at, s), api.OK)
			}
		}
		for _, s := range l {
			wantPut(t, what, l, s, l, api.ErrSame)
			for _, v := range []int{0, 6, 8, -7, top, -top} {
				wantPut(t, what, l, api.Sample{T: s.T, V: v}, l, api.ErrOther)
			}
			for _, v := range []int{top + 1, -top - 1} {
				wantPut(t, what, l, api.Sample{T: s.T, V: v}, l, api.ErrArg)
			}
		}
		for _, s := range misfits() {
			wantPut(t, what, l, s, l, api.ErrArg)
		}
	}
}

// Samples that may not be are ErrArg, and none, whatever is put: also what stands there, another value, and what may not be.
func TestPutIntoWrong(t *testing.T) {
	for _, l := range wrong() {
		for _, s := range l[:min(len(l), 2*most)] {
			wantPut(t, "what stands there", l, s, nil, api.ErrArg)
			wantPut(t, "another value", l, api.Sample{T: s.T, V: s.V + 1}, nil, api.ErrArg)
		}
		for _, s := range slices.Concat(misfits(), row(0, 0, 3, 3, 999999, 1, top, top)) {
			wantPut(t, "any", l, s, nil, api.ErrArg)
		}
	}
}

// One sample fewer than may be has room for one more, and one more has not.
func TestPutTheLastOne(t *testing.T) {
	full := even(most, 0, top/most, 9)
	for at := range full {
		wantPut(t, "the 64th", without(full, at), full[at], full, api.OK)
	}
	for _, s := range row(1, 9, top, 9, top-1, 0) {
		wantPut(t, "the 65th", full, s, full, api.ErrFull)
	}
	more := even(most+1, 0, 1, 9)
	wantPut(t, "into one more than may be", more, api.Sample{T: 3, V: 9}, nil, api.ErrArg)
	wantPut(t, "into one more than may be", more, api.Sample{T: 999, V: 9}, nil, api.ErrArg)
}

func TestPutEdges(t *testing.T) {
	for _, l := range [][]api.Sample{nil, row(5, 0), row(0, 0, top, 0), row(0, top, 1, -top, top, 3), even(most, 0, top/most, 1), row(1<<31, 1, 1<<32, 1)} {
		for _, x := range edges() {
			holdPut(t, "a time", l, api.Sample{T: x})
			holdPut(t, "a time", l, api.Sample{T: x, V: 1})
			holdPut(t, "a value", l, api.Sample{T: 0, V: x})
			holdPut(t, "a value", l, api.Sample{T: 7, V: x})
			holdPut(t, "a value", l, api.Sample{T: top, V: x})
			holdPut(t, "both", l, api.Sample{T: x, V: x})
		}
	}
	for _, c := range []struct {
		t, v int
		ok   bool
	}{
		{0, 0, true}, {-1, 0, false}, {top, 0, true}, {top + 1, 0, false},
		{0, top, true}, {0, top + 1, false}, {0, -top, true}, {0, -top - 1, false}, {top, -top, true}, {top, top, true},
	} {
		s := api.Sample{T: c.t, V: c.v}
		if c.ok {
			wantPut(t, "an edge", nil, s, []api.Sample{s}, api.OK)
		} else {
			wantPut(t, "beyond an edge", nil, s, nil, api.ErrArg)
		}
	}
}

// orders calls with each order of a list.
func orders(l []api.Sample, call func([]api.Sample)) {
	var fill func(at int)
	fill = func(at int) {
		if at == len(l) {
			call(l)
			return
		}
		for i := at; i < len(l); i++ {
			l[at], l[i] = l[i], l[at]
			fill(at + 1)
			l[at], l[i] = l[i], l[at]
		}
	}
	fill(0)
}

// putAll is samples put one by one, from none on; all of them must be taken.
func putAll(t *testing.T, l []api.Sample) []api.Sample {
	t.Helper()
	var all []api.Sample
	for i, s := range l {
		var e api.Errno
		if all, e = samples.Put(all, s); e != api.OK || len(all) != i+1 {
			t.Fatalf("put in the order %s: at %d: %d", short(l), i, e)
		}
	}
	return all
}

func TestOrderOfFew(t *testing.T) {
	for _, must := range [][]api.Sample{nil, row(5, 5), row(0, 1, top, 1), row(1, 9, 2, 8, 3, 7, 4, 6, 5, 5, 6, 4), row(0, top, 3, -top, 4, 0, top-1, 7, top, 7)} {
		orders(slices.Clone(must), func(l []api.Sample) {
			if got := putAll(t, l); !slices.Equal(got, must) {
				t.Errorf("put in the order %s: %s", short(l), short(got))
			}
		})
	}
}

func TestOrderOfMany(t *testing.T) {
	c := chance(12)
	for range 400 {
		must := c.samples()
		l := c.shuffled(must)
		if got := putAll(t, l); !slices.Equal(got, must) {
			t.Errorf("put in the order %s: %s", short(l), short(got))
		}
	}
}

// What is refused in between leaves no trace, wherever it comes.
func TestRefusedLeavesNoTrace(t *testing.T) {
	c := chance(77)
	for range 200 {
		must := c.samples()
		var all []api.Sample
		for _, s := range c.shuffled(must) {
			all, _ = samples.Put(all, s)
			for _, x := range append(misfits()[:4], s, api.Sample{T: s.T, V: -s.V + 1}) {
				var e api.Errno
				if all, e = samples.Put(all, x); e == api.OK {
					t.Fatalf("Put(%s, %v) is OK", short(all), x)
				}
			}
		}
		if !slices.Equal(all, must) {
			t.Errorf("put with others between: %s, want %s", short(all), short(must))
		}
	}
}

// Drawn rows of puts, many of which are refused, go on as the slow reckoning says.
func TestPutDrawn(t *testing.T) {
	c := chance(2027)
	seen := map[api.Errno]int{}
	for range 300 {
		var l []api.Sample
		room := one(&c, 4, 40, 70, 200)
		for range 150 {
			s := api.Sample{T: c.below(room+2) - 1, V: one(&c, 0, 0, 0, 1, top, top+1)}
			must, e := slowPut(l, s)
			got, f := samples.Put(l, s)
			if f != e || !slices.Equal(got, must) {
				t.Fatalf("Put(%s, %v) = %s, %d, want %s, %d", short(l), s, short(got), f, short(must), e)
			}
			seen[e]++
			l = got
		}
	}
	for _, e := range []api.Errno{api.OK, api.ErrArg, api.ErrSame, api.ErrOther, api.ErrFull} {
		if seen[e] < 500 {
			t.Errorf("the error %d was drawn %d times alone", e, seen[e])
		}
	}
}
