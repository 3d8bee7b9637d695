package maps_test

import (
	"slices"
	"testing"

	"windrose/api"
	"windrose/maps"
)

// every is a list of maps and deltas: what is done, what is refused, and maps that may not be.
func every() ([]api.Map, []api.Delta) {
	c := chance(2463534242)
	maps := []api.Map{town(), full(), with(town(), func(m *api.Map) { m.Epoch = top }), {}, pinned(pin(0, 3, 3)), spans(3, 1, span(0, 2, 1), span(1, 7))}
	deltas := append(asked(), api.Delta{}, of(api.DeltaUp, 3), pinTo(0, 3, 5), pinTo(1), pinTo(1, 8), pinTo(1, 3, 8, 11), pinTo(2, 11, 8), down(8),
		down(11), weigh(8, 0), of(api.DeltaOut, 11), add(999, 7, 7, topWeight))
	l, more := c.run(3, 1, 4, 80)
	return append(maps, l[40:]...), append(deltas, more[60:]...)
}

// TestNothingHandedInIsChanged: neither a list, nor what lies behind its end.
func TestNothingHandedInIsChanged(t *testing.T) {
	l, deltas := every()
	for _, m := range l {
		m = deep(m)
		ahead := whole(m)
		for _, d := range deltas {
			d.Nodes = roomy(d.Nodes, 77, 78)
			nodes := slices.Clone(all(d.Nodes))
			row := roomy([]api.Delta{d, d}, d)
			maps.Apply(m, d)
			maps.Next(m, d)
			maps.Fold(m, row)
			if !slices.Equal(all(d.Nodes), nodes) || !slices.Equal(all(row[0].Nodes), nodes) || row[0].Kind != d.Kind || row[1].Node != d.Node {
				t.Fatalf("the delta %+v is changed", d)
			}
			if whole(m) != ahead {
				t.Fatalf("by %+v\n%s is\n%s", d, ahead, whole(m))
			}
		}
		for group := -1; group < 9; group++ {
			maps.Raw(m, group)
			maps.Acting(m, group)
		}
		maps.Check(m)
		maps.Same(m, m)
		if whole(m) != ahead {
			t.Fatalf("%s is\n%s", ahead, whole(m))
		}
	}
}

// TestAnswersAreNewMemory: no list of a map that is told is shared with what was handed in, or with another one of it; spare room counts.
func TestAnswersAreNewMemory(t *testing.T) {
	l, deltas := every()
	told := 0
	for _, m := range l {
		m = deep(m)
		for _, d := range deltas {
			d.Nodes = roomy(d.Nodes, 77, 78)
			s := spots{}
			s.add(m)
			addresses(s, d.Nodes)
			ahead := len(s)
			a, e := maps.Apply(m, d)
			s.add(a)
			s.add(maps.Next(m, d))
			s.add(maps.Fold(m, nil))
			s.add(maps.Fold(m, []api.Delta{d, d, none(), d}))
			s.add(maps.Fold(m, deltas))
			if s.shared() {
				t.Fatalf("behind %+v, %+v: memory is shared (%d)", m, d, e)
			}
			told += len(s) - ahead
		}
		s := spots{}
		s.add(m)
		for group := range 8 {
			addresses(s, maps.Raw(m, group))
			addresses(s, maps.Raw(m, group))
			addresses(s, maps.Acting(m, group))
		}
		if s.shared() {
			t.Fatalf("of %+v: memory is shared", m)
		}
	}
	a, _ := maps.New(3, 1, 8)
	b, _ := maps.New(3, 1, 8)
	s := spots{}
	s.add(a)
	s.add(b)
	if s.shared() || len(s) < 16 || told < 10000 {
		t.Errorf("New shares memory, or %d, %d are too few to tell", len(s), told)
	}
}

// TestAnswersHangOnArgumentsAlone: what was told is not changed by a later call.
func TestAnswersHangOnArgumentsAlone(t *testing.T) {
	l, deltas := every()
	for _, m := range l {
		for _, d := range deltas {
			a, e := maps.Apply(m, d)
			ahead := whole(a)
			maps.Fold(a, deltas[:8])
			b, f := maps.Apply(m, d)
			if whole(a) != ahead || text(a) != text(b) || e != f {
				t.Fatalf("Apply(%+v, %+v) twice: %+v, %+v", m, d, a, b)
			}
		}
	}
}
