package acceptor_test

import (
	"fmt"
	"testing"

	"windrose/acceptor"
	"windrose/api"
)

// proposer asks by a ballot of its own, from a slot on.
type proposer struct {
	ballot int
	from   int
	who    []int            // promised, in the order in which that was heard
	told   [][]api.Accepted // what they told
	asks   []api.Delta      // what it asks to accept, from that slot on; none ahead of more than half
}

// letter is a message on its way: to prepare (slot 0), to accept, or, back, what was promised.
type letter struct {
	back     bool
	proposer int
	acceptor int
	slot     int
	told     []api.Accepted
}

// hall is some acceptors, proposers, and what is on its way between them; what was accepted, by slot, by ballot and by acceptor.
type hall struct {
	ones      []api.Acceptor
	proposers []proposer
	flight    []letter
	votes     map[[2]int]map[int]string
	agreed    map[int]string // by slot
	times     map[[2]int]int // by slot and ballot: that more than half accepted there
	bound     int            // how often what was to be asked was another one's
}

const hallSlots = 3

func newHall(ones int, ballots []int, c *chance) *hall {
	h := &hall{ones: make([]api.Acceptor, ones), votes: map[[2]int]map[int]string{}, agreed: map[int]string{}, times: map[[2]int]int{}}
	for _, ballot := range ballots {
		h.proposers = append(h.proposers, proposer{ballot: ballot, from: one(c, 1, 1, 1, 2)})
	}
	return h
}

func (h *hall) send(proposer, slot int) {
	for i := range h.ones {
		h.flight = append(h.flight, letter{proposer: proposer, acceptor: i, slot: slot})
	}
}

// hear is what becomes of a letter.
func (h *hall) hear(x letter) error {
	p := &h.proposers[x.proposer]
	switch {
	case x.back:
		h.promised(x)
	case x.slot == 0:
		a, told, e := acceptor.Prepare(h.ones[x.acceptor], p.ballot, p.from)
		h.ones[x.acceptor] = a
		if e == api.OK {
			h.flight = append(h.flight, letter{back: true, proposer: x.proposer, acceptor: x.acceptor, told: told})
		}
	default:
		d := p.asks[x.slot-p.from]
		a, e := acceptor.Accept(h.ones[x.acceptor], p.ballot, x.slot, d)
		h.ones[x.acceptor] = a
		if e == api.OK {
			return h.voted(x.slot, p.ballot, x.acceptor, text(d))
		}
	}
	return nil
}

func (h *hall) promised(x letter) {
	p := &h.proposers[x.proposer]
	for _, i := range p.who {
		if i == x.acceptor {
			return
		}
	}
	if len(p.asks) > 0 { // that comes late
		return
	}
	p.who, p.told = append(p.who, x.acceptor), append(p.told, x.told)
	if 2*len(p.who) <= len(h.ones) {
		return
	}
	picked := acceptor.Pick(p.told)
	for slot := p.from; slot <= hallSlots; slot++ {
		d := up(100*p.ballot + slot) // what it likes
		if i := slot - p.from; i < len(picked) && picked[i].Ballot > 0 {
			d = picked[i].Delta
			h.bound++
		}
		p.asks = append(p.asks, d)
		h.send(x.proposer, slot)
	}
}

// voted holds what more than half accepted at one ballot in a slot against what they did at another one.
func (h *hall) voted(slot, ballot, who int, d string) error {
	at := [2]int{slot, ballot}
	if h.votes[at] == nil {
		h.votes[at] = map[int]string{}
	}
	h.votes[at][who] = d
	if 2*len(h.votes[at]) <= len(h.ones) {
		return nil
	}
	h.times[at]++
	if was, ok := h.agreed[slot]; ok && was != d {
		return fmt.Errorf("slot %d: more than half accepted %s, and at ballot %d %s", slot, was, ballot, d)
	}
	h.agreed[slot] = d
	return nil
}

// walk lets proposers begin, and letters be heard, lost and doubled, in a drawn order.
func (h *hall) walk(c *chance, lost, doubled int) error {
	begun := 0
	for range 2000 {
		if begun < len(h.proposers) && (len(h.flight) == 0 || c.below(8) == 0) {
			h.send(begun, 0)
			begun++
			continue
		}
		if len(h.flight) == 0 {
			return nil
		}
		i := c.below(len(h.flight))
		x := h.flight[i]
		if c.below(100) >= doubled {
			h.flight[i] = h.flight[len(h.flight)-1]
			h.flight = h.flight[:len(h.flight)-1]
		}
		if c.below(100) < lost {
			continue
		}
		if e := h.hear(x); e != nil {
			return e
		}
	}
	return nil
}

// drawnBallots are so many, none twice, in no order, some far from the others.
func (c *chance) drawnBallots(many int) []int {
	l := []int{1, 2, 3, 4, 5, 11, 12, 40, top - 1, top}
	for i := range l {
		j := i + c.below(len(l)-i)
		l[i], l[j] = l[j], l[i]
	}
	return l[:many]
}

// TestAgreement is Ac3, by walks.
func TestAgreement(t *testing.T) {
	c := chance(88172645463325252)
	agreed, again, bound := 0, 0, 0
	for i := range 8000 {
		h := newHall(1+i%5, c.drawnBallots(2+c.below(5)), &c)
		if e := h.walk(&c, one(&c, 0, 5, 15, 30), one(&c, 0, 10, 25)); e != nil {
			t.Fatalf("walk %d: %v", i, e)
		}
		for slot := range hallSlots {
			ballots := 0
			for at := range h.times {
				if at[0] == slot+1 {
					ballots++
				}
			}
			agreed += min(ballots, 1)
			again += max(ballots-1, 0)
		}
		bound += h.bound
		for _, a := range h.ones {
			if !slowMay(a) {
				t.Fatalf("walk %d: %s may not be", i, short(a))
			}
		}
	}
	if agreed < 10000 || again < 4000 || bound < 8000 {
		t.Errorf("%d agreed, %d once more, %d bound: too few to tell", agreed, again, bound)
	}
}

const (
	fewOnes = 5 // at most
	fewAsk  = 4 // at most
)

// column is an acceptor of one slot, and its ways with the proposers, whose ballots are 1, 2 and so on.
type column struct {
	promised, ballot int8
	told             [fewAsk]int8 // 0: did not promise; else one more than the ballot that it told
	voted            [fewAsk]bool
}

// stand is where some acceptors and proposers stand: of each proposer whose delta it asks for (0: none yet).
type stand struct {
	columns [fewOnes]column
	asks    [fewAsk]int8
}

// slotOf is a column's acceptor.
func (s stand) slotOf(i int) api.Acceptor {
	x := s.columns[i]
	if x.ballot == 0 {
		return of(int(x.promised))
	}
	return of(int(x.promised), acc(int(x.ballot), up(int(s.asks[x.ballot-1]))))
}

func (s *stand) keep(i int, a api.Acceptor) {
	s.columns[i].promised = int8(a.Promised)
	if len(a.Slots) > 0 {
		s.columns[i].ballot = int8(a.Slots[0].Ballot)
	}
}

// prepare is the stand behind an acceptor that hears a proposer's first letter.
func (s stand) prepare(i, p, ones int) stand {
	a, told, e := acceptor.Prepare(s.slotOf(i), p+1, 1)
	s.keep(i, a)
	if e != api.OK || s.asks[p] != 0 {
		return s
	}
	s.columns[i].told[p] = 1
	if len(told) > 0 {
		s.columns[i].told[p] = int8(1 + told[0].Ballot)
	}
	var heard [][]api.Accepted
	for _, x := range s.columns[:ones] {
		if ballot := x.told[p] - 1; ballot > 0 {
			heard = append(heard, []api.Accepted{acc(int(ballot), up(int(s.asks[ballot-1])))})
		} else if ballot == 0 {
			heard = append(heard, nil)
		}
	}
	if 2*len(heard) > ones {
		s.asks[p] = int8(p + 1)
		if picked := acceptor.Pick(heard); len(picked) > 0 && picked[0].Ballot > 0 {
			s.asks[p] = int8(picked[0].Delta.Node)
		}
		for j := range s.columns {
			s.columns[j].told[p] = 0 // what was told counts for nothing any more
		}
	}
	return s
}

// accept is the stand behind an acceptor that hears what a proposer asks for.
func (s stand) accept(i, p int) stand {
	a, e := acceptor.Accept(s.slotOf(i), p+1, 1, up(int(s.asks[p])))
	s.keep(i, a)
	if e == api.OK {
		s.columns[i].voted[p] = true
	}
	return s
}

// agrees tells what more than half accepted at one ballot (0: nothing), and whether it is one thing alone.
func (s stand) agrees(ones, asking int) (int8, bool) {
	var agreed int8
	for p := range asking {
		votes := 0
		for _, x := range s.columns[:ones] {
			if x.voted[p] {
				votes++
			}
		}
		if 2*votes > ones {
			if agreed != 0 && agreed != s.asks[p] {
				return 0, false
			}
			agreed = s.asks[p]
		}
	}
	return agreed, true
}

// nexts are the stands behind one letter that is heard.
func (s stand) nexts(ones, asking int) []stand {
	var l []stand
	for i := range ones {
		for p := range asking {
			l = append(l, s.prepare(i, p, ones))
			if s.asks[p] != 0 {
				l = append(l, s.accept(i, p))
			}
		}
	}
	return l
}

// explore goes through all stands that there can be; of how many of them what agreed.
func explore(t *testing.T, ones, asking int) map[int8]int {
	t.Helper()
	seen := map[stand]bool{{}: true}
	work := []stand{{}}
	told := map[int8]int{}
	for len(work) > 0 {
		s := work[len(work)-1]
		work = work[:len(work)-1]
		agreed, ok := s.agrees(ones, asking)
		if !ok {
			t.Fatalf("%d acceptors: more than half of %+v accepted unlike deltas", ones, s)
		}
		told[agreed]++
		for _, n := range s.nexts(ones, asking) {
			if !seen[n] {
				seen[n] = true
				work = append(work, n)
			}
		}
	}
	return told
}

// TestAgreementInAllOrders is Ac3 of few acceptors and proposers and of one slot, in all orders in which letters may be heard, lost and doubled.
func TestAgreementInAllOrders(t *testing.T) {
	for _, x := range []struct{ ones, asking, least int }{{1, 3, 4}, {2, 3, 16}, {3, 2, 50}, {4, 2, 100}, {5, 2, 1000}, {3, 3, 400}, {3, 4, 1000}, {4, 3, 1000}} {
		told := explore(t, x.ones, x.asking)
		for agreed := range x.asking + 1 {
			if told[int8(agreed)] < x.least {
				t.Errorf("%d acceptors: in %v stands something agreed: too few to tell", x.ones, told)
			}
		}
	}
}
