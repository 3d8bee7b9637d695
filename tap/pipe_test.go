package tap_test

import (
	"fmt"
	"math"
	"slices"
	"testing"

	"windrose/api"
	"windrose/tap"
)

// edges are what New is asked with for either number: what may be, what is one off, and the edges of an int.
func edges() []int {
	l := []int{math.MinInt, math.MinInt + 1, -1 << 32, -1 << 31, -64, -8, 1 << 8, 1<<8 + 1, 1 << 16, 1 << 31, 1<<32 + 1, 1<<32 + 8, 1 << 62, math.MaxInt - 1, math.MaxInt}
	for n := -2; n <= mostRoom+2; n++ {
		l = append(l, n)
	}
	return l
}

// Ta1: there can be 1 to 8 pipes, and 1 to 64 numbers in each; a new tap is empty.
func TestNew(t *testing.T) {
	for _, pipes := range edges() {
		for _, room := range edges() {
			p, e := tap.New(pipes, room)
			if pipes < 1 || pipes > 8 || room < 1 || room > 64 {
				if p != nil || e != api.ErrArg {
					t.Fatalf("New(%d, %d): %v, error %d, want none, and ErrArg", pipes, room, p != nil, e)
				}
				continue
			}
			if p == nil || e != api.OK {
				t.Fatalf("New(%d, %d): %v, error %d", pipes, room, p != nil, e)
			}
			wantCounts(t, fmt.Sprint("New ", pipes, room), p, make([]int, pipes)...)
			wantNextNone(t, fmt.Sprint("New ", pipes, room), p)
		}
	}
}

func TestNewAtTheNamedEdges(t *testing.T) {
	for _, r := range []struct {
		pipes, room int
		e           api.Errno
	}{
		{1, 1, api.OK}, {8, 1, api.OK}, {1, 64, api.OK}, {8, 64, api.OK}, {2, 2, api.OK},
		{0, 1, api.ErrArg}, {-1, 1, api.ErrArg}, {9, 1, api.ErrArg}, {0, 64, api.ErrArg}, {9, 64, api.ErrArg},
		{1, 0, api.ErrArg}, {1, -1, api.ErrArg}, {1, 65, api.ErrArg}, {8, 0, api.ErrArg}, {8, 65, api.ErrArg}, {64, 8, api.ErrArg},
		{0, 0, api.ErrArg}, {-1, -1, api.ErrArg}, {9, 65, api.ErrArg}, {0, 65, api.ErrArg}, {9, 0, api.ErrArg},
		{math.MinInt, 1, api.ErrArg}, {math.MaxInt, 1, api.ErrArg}, {1, math.MinInt, api.ErrArg}, {1, math.MaxInt, api.ErrArg},
		{math.MinInt, math.MinInt, api.ErrArg}, {math.MaxInt, math.MaxInt, api.ErrArg}, {math.MinInt, math.MaxInt, api.ErrArg}, {math.MaxInt, math.MinInt, api.ErrArg},
	} {
		if p, e := tap.New(r.pipes, r.room); e != r.e || (p != nil) != (r.e == api.OK) {
			t.Errorf("New(%d, %d): %v, error %d, want error %d", r.pipes, r.room, p != nil, e, r.e)
		}
	}
}

// Ta1, of every tap that there can be: each pipe takes as many as it has room for, whatever is in the others, and gives them as they went in; and so once more.
func TestFilledAndEmptied(t *testing.T) {
	for pipes := 1; pipes <= mostPipes; pipes++ {
		for room := 1; room <= mostRoom; room++ {
			p := made(t, pipes, room)
			for range 2 {
				fillUp(t, p, pipes, room)
				takeAll(t, p, pipes, room)
			}
		}
	}
}

func fillUp(t *testing.T, p *tap.Tap, pipes, room int) {
	t.Helper()
	what := fmt.Sprint("filled: ", pipes, " pipes of room ", room)
	counts := make([]int, pipes)
	for pipe := range pipes {
		for i := range room {
			wantPut(t, what, p, pipe, mark(pipe, i), api.OK)
			counts[pipe]++
			wantCounts(t, what, p, counts...)
		}
		for _, n := range []int{0, 7, math.MinInt} {
			wantPut(t, what, p, pipe, n, api.ErrFull)
		}
		wantCounts(t, what, p, counts...)
	}
}

func takeAll(t *testing.T, p *tap.Tap, pipes, room int) {
	t.Helper()
	what := fmt.Sprint("emptied: ", pipes, " pipes of room ", room)
	counts := alike(pipes, room)
	for pipe := pipes - 1; pipe >= 0; pipe-- {
		for i := range room {
			wantTake(t, what, p, pipe, mark(pipe, i))
			counts[pipe]--
			wantCounts(t, what, p, counts...)
		}
		for range 3 {
			wantTakeError(t, what, p, pipe, api.ErrNone)
		}
		wantCounts(t, what, p, counts...)
	}
}

// Ta1: of a pipe that there is not, both calls are ErrArg, be the tap empty, full or between; and nothing is other than ahead.
func TestNoSuchPipe(t *testing.T) {
	for pipes := 1; pipes <= mostPipes; pipes++ {
		for _, count := range []int{0, 1, 2, 3} {
			held, other := made(t, pipes, 3), made(t, pipes, 3)
			for _, p := range []*tap.Tap{held, other} {
				turnTo(t, p, pipes/2)
				hold(t, p, alike(pipes, count)...)
			}
			what := fmt.Sprint(pipes, " pipes with ", count, " of 3 in each")
			for _, pipe := range noPipes(pipes) {
				for _, n := range []int{0, 5, -1, math.MaxInt} {
					wantPut(t, what, held, pipe, n, api.ErrArg)
				}
				wantTakeError(t, what, held, pipe, api.ErrArg)
			}
			if got, must := all(held), all(other); got != must {
				t.Errorf("%s: a refused call has changed it: %s, want %s", what, got, must)
			}
		}
	}
}

// Ta1: the first pipe and the last one are there.
func TestFirstAndLastPipe(t *testing.T) {
	for pipes := 1; pipes <= mostPipes; pipes++ {
		p := made(t, pipes, 2)
		last := pipes - 1
		wantPut(t, "first", p, 0, 3, api.OK)
		wantPut(t, "last", p, last, 4, api.OK)
		wantPut(t, "one more", p, pipes, 5, api.ErrArg)
		wantPut(t, "one less", p, -1, 5, api.ErrArg)
		wantTakeError(t, "one more", p, pipes, api.ErrArg)
		wantTakeError(t, "one less", p, -1, api.ErrArg)
		wantTake(t, "first", p, 0, 3)
		wantTake(t, "last", p, last, 4)
		wantTakeError(t, "first, empty", p, 0, api.ErrNone)
		wantTakeError(t, "last, empty", p, last, api.ErrNone)
	}
}

// Ta1: all numbers may be put; they come out as they are, 0 beside no error among them.
func TestAllNumbers(t *testing.T) {
	l := anyNumbers()
	p := made(t, 2, mostRoom)
	put(t, p, 1, l...)
	for _, n := range l {
		wantTake(t, "by Take", p, 1, n)
	}
	put(t, p, 1, l...)
	for _, n := range l {
		wantNext(t, "by Next", p, 1, n)
	}
	for i, n := range l {
		wantSpread(t, "by Spread", p, n, i%2)
	}
	for i, n := range l {
		wantTake(t, "by Take, behind Spread", p, i%2, n)
	}
	wantTakeError(t, "at the end", p, 0, api.ErrNone)
	wantTakeError(t, "at the end", p, 1, api.ErrNone)
}

// Ta1: the edges of a pipe's room, by hand: one more goes in, then none; what was full and was taken from takes one more again.
func TestRoom(t *testing.T) {
	p := made(t, 3, 3)
	put(t, p, 1, 10, 11)
	wantCounts(t, "room for one more", p, 0, 2, 0)
	wantPut(t, "room for one more", p, 1, 12, api.OK)
	wantPut(t, "full", p, 1, 13, api.ErrFull)
	wantCounts(t, "full", p, 0, 3, 0)
	wantPut(t, "the one ahead", p, 0, 20, api.OK)
	wantPut(t, "the one behind", p, 2, 30, api.OK)
	wantTake(t, "full", p, 1, 10)
	wantCounts(t, "was full", p, 1, 2, 1)
	wantPut(t, "was full", p, 1, 14, api.OK)
	wantPut(t, "full again", p, 1, 15, api.ErrFull)
	wantNext(t, "the turn is at 0", p, 0, 20)
	wantNext(t, "full", p, 1, 11)
	wantPut(t, "was full", p, 1, 16, api.OK)
	wantPut(t, "full again", p, 1, 17, api.ErrFull)
	for _, n := range []int{12, 14, 16} {
		wantTake(t, "what went in first", p, 1, n)
	}
	wantTakeError(t, "emptied", p, 1, api.ErrNone)
	wantTakeError(t, "emptied by Next", p, 0, api.ErrNone)
	wantPut(t, "emptied", p, 1, 18, api.OK)
	wantTake(t, "emptied and filled", p, 1, 18)
	wantTake(t, "not touched since", p, 2, 30)
	wantCounts(t, "at the end", p, 0, 0, 0)
}

// Ta1: where a pipe is full, a Put is refused and changes nothing; likewise a Take of an empty one.
func TestRefusedChangesNothing(t *testing.T) {
	for _, row := range countRows(3, 2) {
		for turn := range 3 {
			held, other := made(t, 3, 2), made(t, 3, 2)
			for _, p := range []*tap.Tap{held, other} {
				turnTo(t, p, turn)
				hold(t, p, row...)
			}
			for pipe, count := range row {
				if count == 0 {
					wantTakeError(t, fmt.Sprint(row), held, pipe, api.ErrNone)
				}
				if count == 2 {
					wantPut(t, fmt.Sprint(row), held, pipe, 99, api.ErrFull)
				}
			}
			if slices.Max(row) == 0 {
				wantNextNone(t, fmt.Sprint(row), held)
			}
			if slices.Min(row) == 2 {
				wantSpreadFull(t, fmt.Sprint(row), held, 99)
			}
			if got, must := all(held), all(other); got != must {
				t.Errorf("%v, turn %d: a refused call has changed it: %s, want %s", row, turn, got, must)
			}
		}
	}
}

// Ta1: Counts behind each of the other calls, and it changes nothing itself.
func TestCounts(t *testing.T) {
	p := made(t, 3, 2)
	wantCounts(t, "new", p, 0, 0, 0)
	put(t, p, 2, 5, 6)
	wantCounts(t, "behind Puts", p, 0, 0, 2)
	wantSpread(t, "", p, 7, 0)
	wantCounts(t, "behind a Spread", p, 1, 0, 2)
	wantTake(t, "", p, 2, 5)
	wantCounts(t, "behind a Take", p, 1, 0, 1)
	wantNext(t, "", p, 0, 7)
	wantCounts(t, "behind a Next", p, 0, 0, 1)
	for i, pipe := range []int{0, 1, 0, 1, 2} {
		wantSpread(t, "", p, i, pipe)
	}
	for range 3 {
		wantCounts(t, "full", p, 2, 2, 2)
	}
	wantPut(t, "full", p, 1, 5, api.ErrFull)
	wantSpreadFull(t, "full", p, 5)
	wantCounts(t, "full, and refused", p, 2, 2, 2)
	wantNext(t, "the turn is behind 0", p, 1, 1)
	wantNext(t, "the turn is behind 1", p, 2, 6)
	wantCounts(t, "behind two Nexts", p, 2, 1, 1)
}
