package tap_test

import (
	"fmt"
	"math"
	"slices"
	"testing"

	"windrose/api"
	"windrose/tap"
)

const (
	mostPipes = 8
	mostRoom  = 64
)

// made is a tap, or the end of the test.
func made(t *testing.T, pipes, room int) *tap.Tap {
	t.Helper()
	p, e := tap.New(pipes, room)
	if e != api.OK || p == nil {
		t.Fatalf("New(%d, %d): %v, error %d", pipes, room, p != nil, e)
	}
	return p
}

// put puts numbers into a pipe, one by one, or it is the end of the test.
func put(t *testing.T, p *tap.Tap, pipe int, l ...int) {
	t.Helper()
	for _, n := range l {
		if e := p.Put(pipe, n); e != api.OK {
			t.Fatalf("Put(%d, %d): error %d", pipe, n, e)
		}
	}
}

// hold puts so many numbers into each pipe; no two of them are alike.
func hold(t *testing.T, p *tap.Tap, counts ...int) {
	t.Helper()
	for pipe, count := range counts {
		for i := range count {
			put(t, p, pipe, mark(pipe, i))
		}
	}
}

// mark is a number that tells of which pipe it is, and of which place there.
func mark(pipe, i int) int { return 1000*(pipe+1) + i }

// turnTo leaves a tap with all of its pipes empty, and with the turn at one of them.
func turnTo(t *testing.T, p *tap.Tap, turn int) {
	t.Helper()
	pipes := len(p.Counts())
	ahead := (turn + pipes - 1) % pipes
	put(t, p, ahead, 5)
	wantNext(t, "to set the turn", p, ahead, 5)
}

// alike is a list of so many times one number.
func alike(many, n int) []int { return slices.Repeat([]int{n}, many) }

func wantCounts(t *testing.T, what string, p *tap.Tap, must ...int) {
	t.Helper()
	if got := p.Counts(); !slices.Equal(got, must) {
		t.Fatalf("%s: Counts %v, want %v", what, got, must)
	}
}

func wantPut(t *testing.T, what string, p *tap.Tap, pipe, n int, must api.Errno) {
	t.Helper()
	if e := p.Put(pipe, n); e != must {
		t.Fatalf("%s: Put(%d, %d): error %d, want %d", what, pipe, n, e, must)
	}
}

func wantTake(t *testing.T, what string, p *tap.Tap, pipe, must int) {
	t.Helper()
	if n, e := p.Take(pipe); n != must || e != api.OK {
		t.Fatalf("%s: Take(%d): %d, error %d, want %d", what, pipe, n, e, must)
	}
}

// wantTakeError asks for a Take that is refused: beside the error stands 0.
func wantTakeError(t *testing.T, what string, p *tap.Tap, pipe int, must api.Errno) {
	t.Helper()
	if n, e := p.Take(pipe); n != 0 || e != must {
		t.Fatalf("%s: Take(%d): %d, error %d, want 0, error %d", what, pipe, n, e, must)
	}
}

func wantNext(t *testing.T, what string, p *tap.Tap, pipe, must int) {
	t.Helper()
	if at, n, e := p.Next(); at != pipe || n != must || e != api.OK {
		t.Fatalf("%s: Next: pipe %d, %d, error %d, want pipe %d, %d", what, at, n, e, pipe, must)
	}
}

func wantNextNone(t *testing.T, what string, p *tap.Tap) {
	t.Helper()
	if at, n, e := p.Next(); at != -1 || n != 0 || e != api.ErrNone {
		t.Fatalf("%s: Next: pipe %d, %d, error %d, want -1, 0, ErrNone", what, at, n, e)
	}
}

func wantSpread(t *testing.T, what string, p *tap.Tap, n, pipe int) {
	t.Helper()
	if at, e := p.Spread(n); at != pipe || e != api.OK {
		t.Fatalf("%s: Spread(%d): pipe %d, error %d, want pipe %d", what, n, at, e, pipe)
	}
}

func wantSpreadFull(t *testing.T, what string, p *tap.Tap, n int) {
	t.Helper()
	if at, e := p.Spread(n); at != -1 || e != api.ErrFull {
		t.Fatalf("%s: Spread(%d): pipe %d, error %d, want -1, ErrFull", what, n, at, e)
	}
}

// all is everything that can be told of a tap, its turn too, as a text; the tap is used up by it. (One more number in each pipe that has room: none is empty then, and the first Next is at the turn.)
func all(p *tap.Tap) string {
	s := fmt.Sprint(p.Counts())
	for i := range p.Counts() {
		s += fmt.Sprint(" ", p.Put(i, -1-i))
	}
	for range mostPipes*mostRoom + 1 {
		at, n, e := p.Next()
		s += fmt.Sprint(" ", at, ":", n)
		if e != api.OK {
			break
		}
	}
	return s
}

// noPipes are numbers of no pipe of a tap that has so many: behind both ends, like one of them in their lowest bits, and at the edges of an int.
func noPipes(pipes int) []int {
	l := []int{-1, -2, -pipes, -pipes - 1, pipes, pipes + 1, 2 * pipes, 64, 100, 1 << 31, -1 << 31, math.MinInt, math.MinInt + 1, math.MaxInt, math.MaxInt - 1}
	for i := range pipes {
		l = append(l, 1<<8+i, 1<<16+i, 1<<32+i, 1<<62+i, math.MinInt+i)
	}
	return l
}

// anyNumbers are such as may be put: all may.
func anyNumbers() []int {
	return []int{0, 1, -1, 5, -5, 255, 256, -256, 65536, 1 << 31, 1<<31 - 1, -1 << 31, -1<<31 - 1, 1 << 32, 1<<32 + 1, 1 << 53, math.MaxInt, math.MaxInt - 1, math.MinInt, math.MinInt + 1}
}

// countRows are all rows of so many counts from 0 to the greatest one.
func countRows(pipes, greatest int) [][]int {
	rows := [][]int{nil}
	for range pipes {
		var longer [][]int
		for _, row := range rows {
			for n := range greatest + 1 {
				longer = append(longer, append(slices.Clone(row), n))
			}
		}
		rows = longer
	}
	return rows
}

// chance is a row of numbers without a pattern, the same in each run.
type chance uint64

func (c *chance) next() uint64 {
	x := uint64(*c)
	x ^= x << 13
	x ^= x >> 7
	x ^= x << 17
	*c = chance(x)
	return x
}

func (c *chance) below(n int) int { return int(c.next() >> 33 % uint64(n)) }

// one is one of a list.
func one[T any](c *chance, l ...T) T { return l[c.below(len(l))] }
