package tap_test

import (
	"testing"

	"windrose/api"
	"windrose/tap"
)

// ledger is what went into each pipe, and how many of them came out.
type ledger struct {
	in  [][]int
	out []int
}

func newLedger(pipes int) *ledger {
	return &ledger{in: make([][]int, pipes), out: make([]int, pipes)}
}

func (l *ledger) put(pipe, n int) { l.in[pipe] = append(l.in[pipe], n) }

func (l *ledger) empty(pipe int) bool { return l.out[pipe] == len(l.in[pipe]) }

// came holds a number that came out of a pipe against those that went in.
func (l *ledger) came(t *testing.T, pipe, n int) {
	t.Helper()
	if l.empty(pipe) {
		t.Fatalf("%d came out of pipe %d, that is empty", n, pipe)
	}
	if must := l.in[pipe][l.out[pipe]]; n != must {
		t.Fatalf("%d came out of pipe %d as its number %d, want %d", n, pipe, l.out[pipe], must)
	}
	l.out[pipe]++
}

// feed puts a number in, by Put or by Spread, or takes one out, where that may be.
func (l *ledger) feed(t *testing.T, c *chance, p *tap.Tap, n int) {
	t.Helper()
	pipe := c.below(len(l.in))
	switch c.below(5) {
	case 0, 1:
		if p.Put(pipe, n) == api.OK {
			l.put(pipe, n)
		}
	case 2, 3:
		if at, e := p.Spread(n); e == api.OK {
			l.put(at, n)
		}
	case 4:
		if x, e := p.Take(pipe); e == api.OK {
			l.came(t, pipe, x)
		} else if !l.empty(pipe) {
			t.Fatalf("Take(%d): error %d, and it is not empty", pipe, e)
		}
	}
}

// Ta3: what comes out of a pipe, by Take and by Next, came in so, whatever is done between; in the end nothing is left.
func TestComesOutAsItCameIn(t *testing.T) {
	c := chance(88172645463325252)
	through := 0
	for range 300 {
		pipes, room := 1+c.below(mostPipes), one(&c, 1, 2, 3, 8, 63, mostRoom)
		p, l := made(t, pipes, room), newLedger(pipes)
		for n := range 400 {
			l.feed(t, &c, p, n)
			if c.below(3) == 0 {
				if at, x, e := p.Next(); e == api.OK {
					l.came(t, at, x)
				}
			}
		}
		for {
			at, x, e := p.Next()
			if e != api.OK {
				break
			}
			l.came(t, at, x)
		}
		for pipe := range pipes {
			if !l.empty(pipe) {
				t.Fatalf("%d of %d came out of pipe %d", l.out[pipe], len(l.in[pipe]), pipe)
			}
			through += l.out[pipe]
		}
	}
	if through < 20000 {
		t.Errorf("%d numbers went through: too few to tell", through)
	}
}

// waits counts for each pipe the Nexts since which it is not empty, and was not drawn from.
type waits []int

// next does a Next, and holds each pipe that waits against how long it may.
func (w waits) next(t *testing.T, p *tap.Tap, l *ledger) {
	t.Helper()
	at, n, e := p.Next()
	for pipe := range w {
		w[pipe]++
		if l.empty(pipe) {
			w[pipe] = 0
		}
	}
	if e == api.OK {
		l.came(t, at, n)
		w[at] = 0
	}
	for pipe, long := range w {
		if long >= len(w) {
			t.Fatalf("pipe %d of %d is not empty, and was not drawn from by %d Nexts", pipe, len(w), long)
		}
	}
}

// Ta3: a pipe that is not empty is drawn from at each pipes-th Next at least, whatever is done between.
func TestNobodyWaitsTooLong(t *testing.T) {
	c := chance(2463534242)
	longest := 0
	for range 300 {
		pipes, room := 1+c.below(mostPipes), one(&c, 1, 2, 3, 8, mostRoom)
		p, l, w := made(t, pipes, room), newLedger(pipes), make(waits, pipes)
		for n := range 400 {
			for range c.below(4) {
				l.feed(t, &c, p, n)
			}
			for pipe := range w {
				if l.empty(pipe) { // a Take may have emptied it: it waits anew once it is filled
					w[pipe] = 0
				}
			}
			w.next(t, p, l)
			for _, long := range w {
				if pipes == mostPipes {
					longest = max(longest, long)
				}
			}
		}
	}
	if longest != mostPipes-1 {
		t.Errorf("of 8 pipes one waited for %d Nexts at most: too few to tell", longest)
	}
}

// Ta3: neither does a pipe wait while all others, or those ahead of it, or the one just drawn from, are filled up again ahead of each Next.
func TestFilledAgainAndAgain(t *testing.T) {
	for pipes := 1; pipes <= mostPipes; pipes++ {
		for waiting := range pipes {
			for first := range pipes {
				for _, again := range []func(pipe, last int) bool{
					func(pipe, last int) bool { return true },
					func(pipe, last int) bool { return pipe < waiting },
					func(pipe, last int) bool { return pipe > waiting },
					func(pipe, last int) bool { return pipe == last },
					func(pipe, last int) bool { return pipe != last },
				} {
					p := made(t, pipes, mostRoom)
					turnTo(t, p, first)
					wantDrawnInTime(t, p, pipes, waiting, again)
				}
			}
		}
	}
}

// wantDrawnInTime puts numbers into the pipe that waits, once, and fills others up ahead of each Next; that pipe is drawn from once in as many Nexts as there are pipes.
func wantDrawnInTime(t *testing.T, p *tap.Tap, pipes, waiting int, again func(pipe, last int) bool) {
	t.Helper()
	const numbers = 5
	for i := range numbers {
		put(t, p, waiting, mark(waiting, i))
	}
	last, got := -1, 0
	for i := range numbers * pipes {
		for pipe := range pipes {
			if pipe != waiting && again(pipe, last) {
				for p.Put(pipe, 1) == api.OK {
				}
			}
		}
		at, n, e := p.Next()
		if e == api.OK && at == waiting {
			if n != mark(waiting, got) {
				t.Fatalf("%d pipes: %d came out of pipe %d, want %d", pipes, n, at, mark(waiting, got))
			}
			got++
		}
		last = at
		if got < min(numbers, (i+1)/pipes) {
			t.Fatalf("%d pipes: pipe %d is not empty, and was drawn from %d times in %d Nexts", pipes, waiting, got, i+1)
		}
	}
}
