package tap_test

import (
	"fmt"
	"slices"
	"testing"

	"windrose/api"
	"windrose/tap"
)

// The chapter's example.
func TestExample(t *testing.T) {
	for room := 2; room <= mostRoom; room++ {
		p := made(t, 2, room)
		wantPut(t, "example", p, 0, 5, api.OK)
		wantPut(t, "example", p, 0, 6, api.OK)
		wantPut(t, "example", p, 1, 7, api.OK)
		wantNext(t, "example", p, 0, 5)
		wantNext(t, "example", p, 1, 7)
		wantNext(t, "example", p, 0, 6)
		wantNextNone(t, "example", p)
	}
}

// firstFrom is the first pipe from the turn on, around, of those of which the bits are set.
func firstFrom(pipes, turn, set int) int {
	for _, pipe := range append(upTo(turn, pipes), upTo(0, turn)...) {
		if set>>pipe&1 == 1 {
			return pipe
		}
	}
	return -1
}

// upTo is the numbers from one on, ahead of another.
func upTo(from, to int) []int {
	var l []int
	for i := from; i < to; i++ {
		l = append(l, i)
	}
	return l
}

// Ta2, of each number of pipes, each turn, and each choice of pipes that are not empty: which is drawn from, what comes, where the turn stands then.
func TestNextOfAll(t *testing.T) {
	for pipes := 1; pipes <= mostPipes; pipes++ {
		for turn := range pipes {
			for set := range 1 << pipes {
				what := fmt.Sprintf("%d pipes, turn %d, not empty %b", pipes, turn, set)
				p := made(t, pipes, 2)
				turnTo(t, p, turn)
				for pipe := range pipes {
					if set>>pipe&1 == 1 {
						put(t, p, pipe, mark(pipe, 0), mark(pipe, 1))
					}
				}
				behind := turn
				if must := firstFrom(pipes, turn, set); must < 0 {
					wantNextNone(t, what, p)
				} else {
					wantNext(t, what, p, must, mark(must, 0))
					behind = (must + 1) % pipes
				}
				wantTurn(t, what, p, behind)
			}
		}
	}
}

// wantTurn asks where a tap's turn stands: no pipe is empty, so that the next one drawn from is at it; the tap is other than ahead then.
func wantTurn(t *testing.T, what string, p *tap.Tap, turn int) {
	t.Helper()
	for pipe := range p.Counts() {
		p.Put(pipe, 77)
	}
	if at, _, e := p.Next(); at != turn || e != api.OK {
		t.Fatalf("%s: the turn is at %d (error %d), want %d", what, at, e, turn)
	}
}

// Ta2: a new tap's turn stands at pipe 0.
func TestTurnAtFirst(t *testing.T) {
	for pipes := 1; pipes <= mostPipes; pipes++ {
		wantTurn(t, fmt.Sprint("new, ", pipes, " pipes"), made(t, pipes, 1), 0)
	}
}

// Ta2: Nexts by hand, from a turn in the middle, around the end.
func TestNextAround(t *testing.T) {
	p := made(t, 4, 3)
	turnTo(t, p, 2)
	wantNextNone(t, "all are empty", p)
	put(t, p, 2, 20)
	wantNext(t, "the one at the turn alone", p, 2, 20)
	put(t, p, 0, 1)
	wantNext(t, "the first one alone, around the end", p, 0, 1)
	put(t, p, 0, 2)
	wantNext(t, "the one ahead of the turn alone", p, 0, 2)
	put(t, p, 2, 21)
	wantNext(t, "the one behind the turn's alone", p, 2, 21)
	put(t, p, 3, 30, 31)
	wantNext(t, "the last one alone, at the turn", p, 3, 30)
	wantNext(t, "the last one alone, from 0 on", p, 3, 31)
	hold(t, p, 3, 1, 0, 2)
	for _, r := range [][2]int{{0, 0}, {1, 0}, {3, 0}, {0, 1}, {3, 1}, {0, 2}} {
		wantNext(t, "by turns", p, r[0], mark(r[0], r[1]))
	}
	wantNextNone(t, "all are empty again", p)
}

// Ta2: one pipe alone is drawn from by each Next.
func TestNextOfOnePipe(t *testing.T) {
	p := made(t, 1, mostRoom)
	for i := range mostRoom {
		put(t, p, 0, i)
	}
	for i := range mostRoom {
		wantNext(t, "one pipe", p, 0, i)
	}
	wantNextNone(t, "one pipe", p)
	wantNextNone(t, "one pipe", p)
}

// still are what does not move the turn, each done to a tap of two in each pipe of room 3.
func still(t *testing.T, pipes int) map[string]func(p *tap.Tap) {
	l := map[string]func(p *tap.Tap){
		"nothing": func(p *tap.Tap) {},
		"Spread": func(p *tap.Tap) {
			for i := range pipes {
				wantSpread(t, "still", p, 5, i)
			}
		},
		"a refused Spread": func(p *tap.Tap) {
			for range pipes + 1 {
				p.Spread(5)
			}
			wantSpreadFull(t, "still", p, 5)
		},
		"ErrNone of Next": func(p *tap.Tap) {
			for pipe := range pipes {
				wantTake(t, "still", p, pipe, mark(pipe, 0))
				wantTake(t, "still", p, pipe, mark(pipe, 1))
			}
			for range 2 * pipes {
				wantNextNone(t, "still", p)
			}
		},
		"Counts": func(p *tap.Tap) { p.Counts() },
	}
	for pipe := range pipes {
		l[fmt.Sprint("Put ", pipe)] = func(p *tap.Tap) { wantPut(t, "still", p, pipe, 5, api.OK) }
		l[fmt.Sprint("a refused Put ", pipe)] = func(p *tap.Tap) {
			put(t, p, pipe, 5)
			wantPut(t, "still", p, pipe, 5, api.ErrFull)
		}
		l[fmt.Sprint("Take ", pipe)] = func(p *tap.Tap) { wantTake(t, "still", p, pipe, mark(pipe, 0)) }
		l[fmt.Sprint("a refused Take ", pipe)] = func(p *tap.Tap) {
			wantTake(t, "still", p, pipe, mark(pipe, 0))
			wantTake(t, "still", p, pipe, mark(pipe, 1))
			wantTakeError(t, "still", p, pipe, api.ErrNone)
		}
	}
	return l
}

// Ta2: nothing but a Next that draws moves the turn.
func TestWhatDoesNotMoveTheTurn(t *testing.T) {
	for pipes := 1; pipes <= mostPipes; pipes++ {
		for turn := range pipes {
			for name, do := range still(t, pipes) {
				p := made(t, pipes, 3)
				turnTo(t, p, turn)
				hold(t, p, alike(pipes, 2)...)
				do(p)
				wantTurn(t, fmt.Sprintf("%d pipes, turn %d, behind %s", pipes, turn, name), p, turn)
			}
		}
	}
}

// wantSpreads spreads two numbers over a tap that holds so many in each pipe: each goes into the first pipe that has least, as its last one.
func wantSpreads(t *testing.T, room, turn int, row []int) {
	t.Helper()
	what := fmt.Sprintf("%v of room %d, turn %d", row, room, turn)
	p := made(t, len(row), room)
	turnTo(t, p, turn)
	hold(t, p, row...)
	counts := slices.Clone(row)
	for _, n := range []int{-5, 0} {
		least := slices.Min(counts)
		if least == room {
			wantSpreadFull(t, what, p, n)
			wantCounts(t, what, p, counts...)
			continue
		}
		pipe := slices.Index(counts, least)
		wantSpread(t, what, p, n, pipe)
		counts[pipe]++
		wantCounts(t, what, p, counts...)
		for i := range row[pipe] {
			wantTake(t, what, p, pipe, mark(pipe, i))
		}
		wantTake(t, what, p, pipe, n)
		wantTakeError(t, what, p, pipe, api.ErrNone)
		hold(t, p, append(make([]int, pipe), counts[pipe])...)
		row[pipe] = counts[pipe]
	}
}

// Ta2, of all counts that small taps can have, at each turn: into which pipe Spread goes does not hang on the turn.
func TestSpreadOfAll(t *testing.T) {
	for _, r := range []struct{ pipes, room int }{{1, 1}, {1, 2}, {1, 3}, {2, 1}, {2, 3}, {3, 1}, {3, 3}, {4, 2}, {4, 3}, {5, 1}, {5, 2}, {8, 1}} {
		for _, row := range countRows(r.pipes, r.room) {
			for turn := range r.pipes {
				wantSpreads(t, r.room, turn, slices.Clone(row))
			}
		}
	}
}

// Ta2: Spread by hand: all alike, one or two that have least, none that is not full.
func TestSpread(t *testing.T) {
	for _, r := range []struct {
		counts []int
		pipe   int // -1: all are full
	}{
		{[]int{0, 0, 0}, 0}, {[]int{2, 2, 2}, 0}, {[]int{63, 63, 63}, 0}, {[]int{1, 0, 0}, 1}, {[]int{0, 1, 1}, 0}, {[]int{1, 1, 0}, 2}, {[]int{5, 3, 3}, 1},
		{[]int{3, 5, 3}, 0}, {[]int{4, 3, 2}, 2}, {[]int{2, 3, 4}, 0}, {[]int{3, 2, 4}, 1}, {[]int{64, 63, 64}, 1}, {[]int{64, 64, 63}, 2}, {[]int{63, 64, 64}, 0},
		{[]int{64, 0, 64}, 1}, {[]int{64, 63, 0}, 2}, {[]int{64, 64, 64}, -1}, {[]int{64, 63, 63}, 1},
	} {
		p := made(t, 3, mostRoom)
		hold(t, p, r.counts...)
		if r.pipe < 0 {
			wantSpreadFull(t, fmt.Sprint(r.counts), p, 9)
			wantCounts(t, fmt.Sprint(r.counts), p, r.counts...)
			continue
		}
		wantSpread(t, fmt.Sprint(r.counts), p, 9, r.pipe)
		r.counts[r.pipe]++
		wantCounts(t, fmt.Sprint(r.counts), p, r.counts...)
	}
}

// Ta2, of every tap that there can be: Spreads alone fill it row by row, from 0 on, till all is full.
func TestSpreadFillsUp(t *testing.T) {
	for pipes := 1; pipes <= mostPipes; pipes++ {
		for room := 1; room <= mostRoom; room++ {
			what := fmt.Sprint("spread over ", pipes, " pipes of room ", room)
			p := made(t, pipes, room)
			for i := range room {
				for pipe := range pipes {
					wantSpread(t, what, p, mark(pipe, i), pipe)
				}
			}
			wantSpreadFull(t, what, p, 1)
			wantCounts(t, what, p, alike(pipes, room)...)
			for i := range room {
				for pipe := range pipes {
					wantNext(t, what, p, pipe, mark(pipe, i))
				}
			}
			wantNextNone(t, what, p)
		}
	}
}

// Ta2: where all were full, the one that is taken from is the one that has least.
func TestSpreadWhereAllWereFull(t *testing.T) {
	for pipes := 1; pipes <= mostPipes; pipes++ {
		for _, room := range []int{1, 2, mostRoom} {
			p := made(t, pipes, room)
			hold(t, p, alike(pipes, room)...)
			for pipe := range pipes {
				wantTake(t, "full", p, pipe, mark(pipe, 0))
				wantSpread(t, "one less", p, -pipe, pipe)
				wantSpreadFull(t, "full again", p, 5)
			}
			for pipe := range pipes {
				wantNext(t, "full", p, pipe, []int{-pipe, mark(pipe, 1)}[min(room-1, 1)])
				wantSpread(t, "one less, by Next", p, 5, pipe)
				wantSpreadFull(t, "full again", p, 5)
			}
		}
	}
}
