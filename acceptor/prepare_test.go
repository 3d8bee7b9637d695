package acceptor_test

import (
	"math"
	"testing"

	"windrose/api"
)

func TestPrepareTellsFromASlotOn(t *testing.T) {
	a := town()
	after := of(12, a.Slots...)
	for from, told := range map[int][]api.Accepted{
		1: {acc(4, up(3)), acc(0, api.Delta{}), acc(9, pin(2, 8, 3, 11)), acc(1, api.Delta{Kind: api.DeltaNone}), acc(0, api.Delta{}), acc(4, pin(1, 20))},
		2: {acc(0, api.Delta{}), acc(9, pin(2, 8, 3, 11)), acc(1, api.Delta{Kind: api.DeltaNone}), acc(0, api.Delta{}), acc(4, pin(1, 20))},
		3: {acc(9, pin(2, 8, 3, 11)), acc(1, api.Delta{Kind: api.DeltaNone}), acc(0, api.Delta{}), acc(4, pin(1, 20))},
		5: {acc(0, api.Delta{}), acc(4, pin(1, 20))}, 6: {acc(4, pin(1, 20))}, 7: nil, 8: nil, 100: nil, 255: nil, 256: nil, 257: nil,
	} {
		wantPrepare(t, a, 12, from, after, told, api.OK)
	}
	for _, from := range append(edges(), 0, 258, 259, top, 1<<32+1, 1<<16+1, 1<<8+2) {
		wantPrepare(t, a, 12, from, a, nil, api.ErrArg)
		wantPrepare(t, a, 3, from, a, nil, api.ErrArg) // ahead of ErrOld
		wantPrepare(t, api.Acceptor{}, 12, from, api.Acceptor{}, nil, api.ErrArg)
	}
}

func TestPrepareOfAllSlots(t *testing.T) {
	l := row(mostSlots, 5)
	for _, from := range []int{1, 2, 128, 255, 256, 257} {
		wantPrepare(t, of(5, l...), 5, from, of(5, l...), l[from-1:], api.OK)
		wantPrepare(t, of(5, l...), 4, from, of(5, l...), nil, api.ErrOld)
		wantPrepare(t, of(5, l[:255]...), 6, from, of(6, l[:255]...), l[min(from-1, 255):255], api.OK)
	}
}

func TestPrepareOfBallots(t *testing.T) {
	for _, promised := range []int{0, 1, 2, 7, top - 1, top} {
		for _, slots := range [][]api.Accepted{nil, {acc(1, up(3))}} {
			if promised == 0 && len(slots) > 0 {
				continue
			}
			a := of(promised, slots...)
			for _, ballot := range []int{1, 2, promised - 2, promised - 1, promised, promised + 1, promised + 2, top - 1, top} {
				switch {
				case ballot < 1 || ballot > top:
					wantPrepare(t, a, ballot, 1, a, nil, api.ErrArg)
				case ballot < promised:
					wantPrepare(t, a, ballot, 1, a, nil, api.ErrOld)
				default:
					wantPrepare(t, a, ballot, 1, of(ballot, slots...), slots, api.OK)
				}
			}
			for _, ballot := range append(edges(), 0) {
				for _, from := range []int{0, 1, 2, 257, 258} {
					wantPrepare(t, a, ballot, from, a, nil, api.ErrArg)
				}
			}
		}
	}
}

func TestPrepareOfOnesThatMayNotBe(t *testing.T) {
	for _, a := range wrongOnes() {
		for _, ballot := range append(edges(), 0, 1, 3, 9, top) {
			for _, from := range []int{-1, 0, 1, 2, 257, 258} {
				wantPrepare(t, a, ballot, from, api.Acceptor{}, nil, api.ErrArg)
			}
		}
	}
}

// ballots are such as may be, and such as may not.
func ballots() []int { return append(edges(), 0, 1, 2, 4, 5, 8, 9, 10, 12, 13, top-1, top) }

// slots are numbers of slots, and such as are none.
func slots() []int { return append(edges(), 0, 1, 2, 3, 5, 6, 7, 8, 254, 255, 256, 257, 258, top) }

func TestPrepareBySlowReckoning(t *testing.T) {
	for _, a := range append(rightOnes(), wrongOnes()...) {
		for _, ballot := range []int{math.MinInt, -1, 0, 1, 4, 5, 6, 9, 10, top, top + 1, math.MaxInt} {
			for _, from := range []int{-1, 0, 1, 2, 6, 7, 255, 256, 257, 258} {
				must, told, e := slowPrepare(a, ballot, from)
				wantPrepare(t, a, ballot, from, must, told, e)
			}
		}
	}
	c := chance(2463534242)
	for range 10000 {
		a, ballot, from := c.acceptor(), one(&c, ballots()...), one(&c, slots()...)
		must, told, e := slowPrepare(a, ballot, from)
		wantPrepare(t, a, ballot, from, must, told, e)
	}
}

// TestExample is the chapter's.
func TestExample(t *testing.T) {
	wantPrepare(t, api.Acceptor{}, 5, 1, of(5), nil, api.OK)
	wantAccept(t, of(5), 3, 1, up(3), of(5), api.ErrOld)
}
