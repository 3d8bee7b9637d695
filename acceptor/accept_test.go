package acceptor_test

import (
	"math"
	"testing"

	"windrose/api"
)

func TestAcceptInASlot(t *testing.T) {
	idle, d := api.Accepted{}, pin(5, 1, 2)
	l := town().Slots
	wantAccept(t, town(), 12, 1, d, of(12, acc(12, d), l[1], l[2], l[3], l[4], l[5]), api.OK)
	wantAccept(t, town(), 12, 2, d, of(12, l[0], acc(12, d), l[2], l[3], l[4], l[5]), api.OK)
	wantAccept(t, town(), 12, 3, d, of(12, l[0], l[1], acc(12, d), l[3], l[4], l[5]), api.OK)
	wantAccept(t, town(), 9, 6, d, of(9, l[0], l[1], l[2], l[3], l[4], acc(9, d)), api.OK)
	wantAccept(t, town(), 9, 7, d, of(9, l[0], l[1], l[2], l[3], l[4], l[5], acc(9, d)), api.OK)
	wantAccept(t, town(), 9, 9, d, of(9, l[0], l[1], l[2], l[3], l[4], l[5], idle, idle, acc(9, d)), api.OK)
	wantAccept(t, api.Acceptor{}, 1, 1, up(3), of(1, acc(1, up(3))), api.OK)
	wantAccept(t, api.Acceptor{}, top, 3, up(3), of(top, idle, idle, acc(top, up(3))), api.OK)
	wantAccept(t, api.Acceptor{}, 7, 256, d, of(7, append(make([]api.Accepted, 255), acc(7, d))...), api.OK)
	wantAccept(t, of(7, row(255, 6)...), 7, 256, d, of(7, append(row(255, 6), acc(7, d))...), api.OK)
	wantAccept(t, of(7, row(256, 6)...), 7, 256, d, of(7, append(row(255, 6), acc(7, d))...), api.OK)
	wantAccept(t, of(7, row(256, 7)...), 7, 1, d, of(7, append([]api.Accepted{acc(7, d)}, row(256, 7)[1:]...)...), api.OK)
	wantAccept(t, of(7, acc(7, up(3))), 7, 1, up(3), of(7, acc(7, up(3))), api.OK) // once more
	for _, slot := range append(edges(), 0, 257, 258, top, 1<<32+1, 1<<16+1, 1<<8+1) {
		for _, a := range []api.Acceptor{{}, town(), of(7, row(256, 6)...)} {
			wantAccept(t, a, 12, slot, d, a, api.ErrArg)
			wantAccept(t, a, 3, slot, d, a, api.ErrArg) // ahead of ErrOld
		}
	}
}

func TestAcceptOfBallots(t *testing.T) {
	for _, promised := range []int{0, 1, 2, 7, top - 1, top} {
		a := of(promised)
		for _, ballot := range []int{1, 2, promised - 2, promised - 1, promised, promised + 1, promised + 2, top - 1, top} {
			switch {
			case ballot < 1 || ballot > top:
				wantAccept(t, a, ballot, 1, up(3), a, api.ErrArg)
			case ballot < promised:
				wantAccept(t, a, ballot, 1, up(3), a, api.ErrOld)
			default:
				wantAccept(t, a, ballot, 1, up(3), of(ballot, acc(ballot, up(3))), api.OK)
			}
		}
		for _, ballot := range append(edges(), 0) {
			wantAccept(t, a, ballot, 1, up(3), a, api.ErrArg)
			wantAccept(t, a, ballot, 0, up(3), a, api.ErrArg)
			wantAccept(t, a, ballot, 1, up(-1), a, api.ErrArg)
		}
	}
	// what a slot has counts for nothing: what was promised does
	wantAccept(t, of(9, acc(2, up(3))), 5, 1, up(4), of(9, acc(2, up(3))), api.ErrOld)
	wantAccept(t, of(9, acc(9, up(3))), 9, 1, up(4), of(9, acc(9, up(4))), api.OK)
}

func TestAcceptOfDeltas(t *testing.T) {
	for _, a := range []api.Acceptor{{}, of(7), town()} {
		for _, d := range rights() {
			must, e := slowAccept(a, 9, 2, d)
			if e != api.OK {
				t.Fatalf("%+v may be told", d)
			}
			wantAccept(t, a, 9, 2, d, must, e)
		}
		for _, d := range wrongs() {
			wantAccept(t, a, 9, 2, d, a, api.ErrArg)
			wantAccept(t, a, 1, 2, d, a, api.ErrArg) // ahead of ErrOld
		}
	}
}

func TestAcceptOfOnesThatMayNotBe(t *testing.T) {
	for _, a := range wrongOnes() {
		for _, ballot := range []int{math.MinInt, -1, 0, 1, 3, 9, top, top + 1} {
			for _, slot := range []int{math.MinInt, 0, 1, 2, 256, 257, math.MaxInt} {
				for _, d := range []api.Delta{up(3), {}, pin(0, 1, 2, 3, 4)} {
					wantAccept(t, a, ballot, slot, d, api.Acceptor{}, api.ErrArg)
				}
			}
		}
	}
}

func TestAcceptBySlowReckoning(t *testing.T) {
	for _, a := range append(rightOnes(), wrongOnes()...) {
		for _, ballot := range []int{-1, 0, 1, 4, 6, 9, 10, top, top + 1} {
			for _, slot := range []int{0, 1, 2, 6, 7, 255, 256, 257} {
				for _, d := range []api.Delta{pin(1, 5, 6, 7), {}} {
					must, e := slowAccept(a, ballot, slot, d)
					wantAccept(t, a, ballot, slot, d, must, e)
				}
			}
		}
	}
	c := chance(88172645463325252)
	for range 10000 {
		a, ballot, slot, d := c.acceptor(), one(&c, ballots()...), one(&c, slots()...), c.delta()
		must, e := slowAccept(a, ballot, slot, d)
		wantAccept(t, a, ballot, slot, d, must, e)
	}
}

// TestRowsOfCalls asks one acceptor this and that, one behind the other, and holds it against the slow reckoning: what comes of one that may be may be.
func TestRowsOfCalls(t *testing.T) {
	c := chance(2463534242)
	done := 0
	for range 300 {
		a := api.Acceptor{}
		for range 40 {
			ballot, slot := one(&c, a.Promised-1, a.Promised, a.Promised+1, a.Promised+c.below(3)), 1+c.below(one(&c, 4, 12))
			var must api.Acceptor
			var e api.Errno
			if c.below(2) == 0 {
				var told []api.Accepted
				must, told, e = slowPrepare(a, ballot, slot)
				wantPrepare(t, a, ballot, slot, must, told, e)
			} else {
				d := c.delta()
				must, e = slowAccept(a, ballot, slot, d)
				wantAccept(t, a, ballot, slot, d, must, e)
			}
			wantCheck(t, must, true)
			if e == api.OK {
				done++
			}
			a = must
		}
	}
	if done < 5000 {
		t.Errorf("%d calls were done: too few to tell", done)
	}
}
