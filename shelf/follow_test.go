package shelf_test

import (
	"math"
	"slices"
	"testing"

	"windrose/api"
	"windrose/shelf"
)

func TestFoldKnown(t *testing.T) {
	wantFold := func(what string, must api.Shelf, l ...api.Entry) {
		t.Helper()
		if got := shelf.Fold(l); text(got) != text(must) {
			t.Errorf("%s: Fold(%s) = %s, want %s", what, short(l), short(got), short(must))
		}
	}
	one, two := entry(1, 1, write("cpu", 5, 1)), entry(2, 1, write("mem", 6, 2))
	wantFold("none", api.Shelf{})
	wantFold("the empty list", api.Shelf{}, []api.Entry{}...)
	wantFold("one", api.Shelf{Lines: []api.Line{line("cpu", 5, 1)}, Dones: []api.Done{told(1, 1, has(0))}}, one)
	both := api.Shelf{Lines: []api.Line{line("cpu", 5, 1), line("mem", 6, 2)}, Dones: []api.Done{told(1, 1, has(0)), told(2, 1, has(0))}}
	wantFold("two", both, one, two)
	wantFold("two, turned round", both, two, one)
	wantFold("two, again and again", both, two, one, one, two, two, one)
	var bad []api.Entry
	for _, x := range []int{-1, maxCount + 1, math.MinInt, math.MaxInt} {
		bad = append(bad, entry(x, 1, write("cpu", 5, 7)), entry(1, x, write("cpu", 5, 7)), entry(0, x, write("cpu", 5, 7)))
	}
	bad = append(bad, entry(1, 0, write("cpu", 5, 7)), entry(0, 0, trim(100)))
	wantFold("of none that is taken", api.Shelf{}, bad...)
	wantFold("of some that are taken", both, slices.Concat(bad, []api.Entry{one}, bad, []api.Entry{two}, bad)...)
	wantFold("of errors that are kept", api.Shelf{Dones: []api.Done{told(1, 3, code(api.ErrArg)), told(2, 1, code(api.ErrArg))}}, entry(1, 3, api.Op{}), entry(2, 1, trim(-1)), entry(1, 2, write("cpu", 5, 1)))
	wantFold("without a client", api.Shelf{Lines: []api.Line{line("cpu", 5, 1, 6, 1)}}, entry(0, 1, write("cpu", 6, 1)), entry(0, 1, write("cpu", 5, 1)), entry(0, 1, write("cpu", 5, 9)))
	wantFold("trimmed", api.Shelf{Lines: []api.Line{line("mem", 6, 2)}, Dones: []api.Done{told(1, 2, api.Answer{}), told(2, 1, has(0))}, Floor: 6}, one, two, entry(1, 2, trim(6)))
}

// Drawn entries, one behind the other: each is done as the slow reckoning says, the shelf behind it may be, and Fold of all ahead is that shelf.
func TestDrawn(t *testing.T) {
	c := chance(2463534242)
	errors := map[api.Errno]int{}
	codes := map[api.Errno]int{}
	most := 0
	for range 6 {
		var s api.Shelf
		var l []api.Entry
		for range 900 {
			e := c.entry(s)
			l = append(l, e)
			next, a := hold(t, "drawn", s, e)
			_, _, f := shelf.Do(s, e)
			errors[f]++
			if f != api.OK {
				continue
			}
			codes[a.Code]++
			s = next
			for _, line := range s.Lines {
				most = max(most, len(line.Samples))
			}
			if shelf.Check(s) != api.OK || !slowMay(s) {
				t.Fatalf("behind %+v is a shelf that may not be: %s", e, short(s))
			}
			if t.Failed() {
				return
			}
		}
		for _, n := range []int{0, 1, 2, 10, 100, 500, len(l)} {
			if got, must := shelf.Fold(l[:n]), slowFold(l[:n]); text(got) != text(must) || !shelf.Same(got, must) {
				t.Fatalf("Fold of %d: %s, want %s", n, short(got), short(must))
			}
		}
		if !shelf.Same(shelf.Fold(l), s) {
			t.Fatalf("Fold of all is not what Do tells one by one")
		}
	}
	for _, e := range []api.Errno{api.OK, api.ErrArg} {
		if errors[e] < 200 {
			t.Errorf("Do told the error %d %d times alone", e, errors[e])
		}
	}
	for _, e := range []api.Errno{api.OK, api.ErrArg, api.ErrFull, api.ErrOther, api.ErrOld} {
		if codes[e] < 50 {
			t.Errorf("the code %d was told %d times alone", e, codes[e])
		}
	}
	if most < 30 {
		t.Errorf("no line had more than %d samples", most)
	}
}

// Drawn entries on a shelf that is full: lines of 64, 16 lines, eight Dones.
func TestDrawnOnACrowd(t *testing.T) {
	c := chance(88172645463325252)
	codes := map[api.Errno]int{}
	for range 3000 {
		s := crowd()
		for i := range s.Dones {
			s.Dones[i].Client, s.Dones[i].Id = i+1, 1+c.below(4)
		}
		e := entry(c.below(11), 1+c.below(6), c.op(50))
		if c.below(3) == 0 {
			e.Op = write(s.Lines[c.below(2)].Series, 47+c.below(140), one(&c, 3, 4))
		}
		_, a := hold(t, "a crowd", s, e)
		codes[a.Code]++
		if t.Failed() {
			return
		}
	}
	for _, e := range []api.Errno{api.OK, api.ErrArg, api.ErrFull, api.ErrOther, api.ErrOld} {
		if codes[e] < 20 {
			t.Errorf("the code %d was told %d times alone", e, codes[e])
		}
	}
}

// TestDoneAgain: an entry that is done again turns nothing, and tells the same, as long as its client did nothing else (Sh2); others go on in between, but for so many new ones that its client is forgotten.
func TestDoneAgain(t *testing.T) {
	c := chance(5)
	codes := map[api.Errno]int{}
	for range 600 {
		s := drawn(&c, 60)
		e := c.entry(s)
		e.Client, e.Id = 1+c.below(8), 10000
		first, a, f := shelf.Do(s, e)
		if f != api.OK {
			t.Fatalf("Do(%s, %+v): %d", short(s), e, f)
		}
		codes[a.Code]++
		now := first
		for range 5 {
			again, b, f := shelf.Do(now, e)
			if f != api.OK || b != a || !shelf.Same(again, now) || text(again) != text(now) {
				t.Fatalf("again: Do(%s, %+v) = %s, %+v, %d, and was told %+v", short(now), e, short(again), b, f, a)
			}
			now = again
			for range 10 {
				now = others(&c, now, e.Client)
			}
		}
	}
	for _, e := range []api.Errno{api.OK, api.ErrArg, api.ErrOther, api.ErrOld} {
		if codes[e] < 5 {
			t.Errorf("the code %d was told %d times alone", e, codes[e])
		}
	}
}

// drawn is a shelf behind so many entries of the clients 1 to 8.
func drawn(c *chance, n int) api.Shelf {
	var s api.Shelf
	for i := range n {
		s, _, _ = shelf.Do(s, entry(1+c.below(8), 1+i, c.op(s.Floor)))
	}
	return s
}

// others is a shelf behind an entry of another client, or of none.
func others(c *chance, s api.Shelf, but int) api.Shelf {
	client := c.below(9)
	if client == but {
		client = 0
	}
	next, _, _ := shelf.Do(s, entry(client, 1+c.below(20000), c.op(s.Floor)))
	return next
}

// Each entry of a row is done twice, one behind the other: that is as if each were done once.
func TestAllTwice(t *testing.T) {
	c := chance(31)
	for range 40 {
		var l, twice []api.Entry
		for i := range 150 {
			e := entry(1+c.below(12), 1+i, c.op(0))
			l, twice = append(l, e), append(twice, e, e)
		}
		if a, b := shelf.Fold(l), shelf.Fold(twice); !shelf.Same(a, b) || text(a) != text(b) {
			t.Fatalf("twice: %s, want %s", short(b), short(a))
		}
	}
}
