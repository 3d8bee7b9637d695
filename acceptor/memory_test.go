package acceptor_test

import (
	"fmt"
	"testing"

	"windrose/acceptor"
	"windrose/api"
)

// all is a list with the room behind its end.
func all[T any](l []T) []T { return l[:cap(l)] }

// roomy is a list with room behind its end, in which something stands.
func roomy[T any](l []T, behind ...T) []T {
	return append(append(make([]T, 0, len(l)+len(behind)), l...), behind...)[:len(l)]
}

// deepDelta is a copy of a delta whose list has room behind its end, in which something stands.
func deepDelta(d api.Delta) api.Delta {
	d.Nodes = roomy(d.Nodes, 77, 78)
	return d
}

// deepSlots is a copy of what was accepted, likewise.
func deepSlots(l []api.Accepted) []api.Accepted {
	l = roomy(l, acc(77, pin(7, 77)), acc(78, up(78)))
	for i := range l {
		l[i].Delta = deepDelta(l[i].Delta)
	}
	return l
}

// deep is a copy of an acceptor, likewise.
func deep(a api.Acceptor) api.Acceptor {
	a.Slots = deepSlots(a.Slots)
	return a
}

// wholeSlots is what was accepted as a text, with what stands behind the end of each list.
func wholeSlots(l []api.Accepted) string {
	told := fmt.Sprintln(len(l), cap(l))
	for _, x := range all(l) {
		told += fmt.Sprintln(x, len(x.Delta.Nodes), all(x.Delta.Nodes))
	}
	return told
}

func whole(a api.Acceptor) string { return fmt.Sprint(a.Promised, " ", wholeSlots(a.Slots)) }

// spots are the places in memory where lists of answers, or of arguments, lie, with the room behind their ends.
type spots map[any]int

func addresses[T any](s spots, l []T) {
	for i := range all(l) {
		s[&all(l)[i]]++
	}
}

func (s spots) slots(l []api.Accepted) {
	addresses(s, l)
	for _, x := range all(l) {
		addresses(s, x.Delta.Nodes)
	}
}

// shared tells whether one place is of two lists.
func (s spots) shared() bool {
	for _, n := range s {
		if n > 1 {
			return true
		}
	}
	return false
}

// everyOne are acceptors that may be, and that may not, none of them too long.
func everyOne() []api.Acceptor {
	var l []api.Acceptor
	for _, a := range append(rightOnes(), wrongOnes()...) {
		if len(a.Slots) <= 255 {
			l = append(l, a)
		}
	}
	c := chance(88172645463325252)
	for range 60 {
		l = append(l, c.acceptor())
	}
	return l
}

// everyDelta are some that may be told, and that may not.
func everyDelta() []api.Delta {
	return []api.Delta{up(3), pin(0, 4, 5, 6), pin(1), {Kind: api.DeltaNone}, {}, pin(0, 1, 2, 3, 4), up(-1)}
}

// TestNothingHandedInIsChanged: neither a list, nor what lies behind its end.
func TestNothingHandedInIsChanged(t *testing.T) {
	for _, a := range everyOne() {
		a = deep(a)
		ahead := whole(a)
		lists := roomy([][]api.Accepted{a.Slots, deepSlots(a.Slots), nil}, a.Slots)
		pair := wholeSlots(lists[1])
		for _, d := range everyDelta() {
			d = deepDelta(d)
			delta := fmt.Sprint(d, all(d.Nodes))
			for _, ballot := range []int{0, 1, 9, top} {
				for _, slot := range []int{0, 1, 2, 7, 256, 257} {
					acceptor.Prepare(a, ballot, slot)
					acceptor.Accept(a, ballot, slot, d)
				}
			}
			acceptor.CheckDelta(d)
			acceptor.SameDelta(d, d)
			if fmt.Sprint(d, all(d.Nodes)) != delta {
				t.Fatalf("the delta %s is %s", delta, fmt.Sprint(d, all(d.Nodes)))
			}
		}
		acceptor.Check(a)
		acceptor.Same(a, a)
		acceptor.Pick(lists)
		if whole(a) != ahead || wholeSlots(lists[1]) != pair || len(lists[2]) != 0 || len(all(lists)) != 4 || wholeSlots(all(lists)[3]) != wholeSlots(a.Slots) {
			t.Fatalf("%s is\n%s", ahead, whole(a))
		}
	}
}

// TestAnswersAreNewMemory: no list that is told is shared with what was handed in, or with another one that is told; spare room counts. So it is beside an error, too.
func TestAnswersAreNewMemory(t *testing.T) {
	seen := 0
	for _, a := range everyOne() {
		a = deep(a)
		for _, d := range everyDelta() {
			d = deepDelta(d)
			for _, ballot := range []int{0, 1, 9, top} {
				s := spots{}
				s.slots(a.Slots)
				addresses(s, d.Nodes)
				ahead := len(s)
				for _, slot := range []int{0, 1, 2, 7, 40, 257} {
					b, told, _ := acceptor.Prepare(a, ballot, slot)
					s.slots(b.Slots)
					s.slots(told)
					b, _ = acceptor.Accept(a, ballot, slot, d)
					s.slots(b.Slots)
				}
				s.slots(acceptor.Pick([][]api.Accepted{a.Slots}))
				s.slots(acceptor.Pick([][]api.Accepted{nil, a.Slots, a.Slots}))
				if s.shared() {
					t.Fatalf("%s, %d, %+v: memory is shared", short(a), ballot, d)
				}
				seen += len(s) - ahead
			}
		}
	}
	if seen < 10000 {
		t.Errorf("%d: too few to tell", seen)
	}
}

// TestWhatIsTakenOnIsNotKept: of a delta that was accepted the acceptor has a copy.
func TestWhatIsTakenOnIsNotKept(t *testing.T) {
	d := pin(1, 2, 3)
	a, _ := acceptor.Accept(api.Acceptor{}, 5, 2, d)
	b, told, _ := acceptor.Prepare(a, 6, 1)
	picked := acceptor.Pick([][]api.Accepted{told})
	d.Nodes[0] = 99
	a.Slots[1].Delta.Nodes[1] = 98
	b.Slots[1].Delta.Nodes[1] = 97
	told[1].Delta.Nodes[0] = 96
	for i, nodes := range [][]int{a.Slots[1].Delta.Nodes, b.Slots[1].Delta.Nodes, told[1].Delta.Nodes, picked[1].Delta.Nodes} {
		if must := [][]int{{2, 98}, {2, 97}, {96, 3}, {2, 3}}[i]; text(nodes) != text(must) {
			t.Errorf("%d: %v, want %v", i, nodes, must)
		}
	}
}

// TestAnswersHangOnArgumentsAlone: what was told is not changed by a later call, and the same is told again.
func TestAnswersHangOnArgumentsAlone(t *testing.T) {
	for _, a := range everyOne() {
		b, told, e := acceptor.Prepare(a, 9, 2)
		c, f := acceptor.Accept(a, 9, 8, pin(1, 2, 3))
		picked := acceptor.Pick([][]api.Accepted{a.Slots, told})
		ahead := whole(b) + wholeSlots(told) + whole(c) + wholeSlots(picked)
		acceptor.Accept(b, 10, 1, up(5))
		acceptor.Accept(c, 10, 1, up(5))
		acceptor.Prepare(c, 11, 1)
		b2, told2, e2 := acceptor.Prepare(a, 9, 2)
		c2, f2 := acceptor.Accept(a, 9, 8, pin(1, 2, 3))
		if whole(b)+wholeSlots(told)+whole(c)+wholeSlots(picked) != ahead || text(b) != text(b2) || text(told) != text(told2) || text(c) != text(c2) || e != e2 || f != f2 {
			t.Fatalf("%s: unlike answers", short(a))
		}
	}
}
