package maps_test

import (
	"fmt"
	"math"
	"slices"
	"testing"

	"windrose/api"
	"windrose/maps"
	"windrose/place"
)

// walk applies deltas, one by one, none of which may be refused.
func walk(t *testing.T, m api.Map, l ...api.Delta) api.Map {
	t.Helper()
	for _, d := range l {
		next, e := maps.Apply(m, d)
		if e != api.OK || next.Epoch != m.Epoch+1 {
			t.Fatalf("Apply(%+v, %+v): %d, %+v", m, d, e, next)
		}
		m = next
	}
	return m
}

// start is a map of nodes with numbers from 1 on, each in a zone of its own.
func start(t *testing.T, size, least, groups, nodes int) api.Map {
	t.Helper()
	m, e := maps.New(size, least, groups)
	if e != api.OK {
		t.Fatalf("New: %d", e)
	}
	for id := 1; id <= nodes; id++ {
		m = walk(t, m, add(id, id, 1, 100))
	}
	return m
}

func up(id int) api.Delta   { return of(api.DeltaUp, id) }
func down(id int) api.Delta { return of(api.DeltaDown, id) }

// trails holds the trail of each group of a map against a text.
func trails(t *testing.T, m api.Map, want ...string) {
	t.Helper()
	for group, trail := range m.Trails {
		if got := fmt.Sprint(trail); got != want[min(group, len(want)-1)] {
			t.Errorf("epoch %d, group %d: trail %s, not %s", m.Epoch, group, got, want[min(group, len(want)-1)])
		}
	}
	if e := maps.Check(m); e != api.OK {
		t.Errorf("Check(%+v): %d", m, e)
	}
}

func TestTrails(t *testing.T) {
	m := start(t, 3, 2, 3, 3)
	trails(t, m, "{0 []}") // nobody acts, as it was
	m = walk(t, m, up(1))
	trails(t, m, "{4 []}")
	m = walk(t, m, up(2)) // one acted, fewer than must
	trails(t, m, "{5 []}")
	m = walk(t, m, up(3))
	trails(t, m, "{6 [{5 [1 2]}]}")
	m = walk(t, m, down(1))
	trails(t, m, "{7 [{5 [1 2]} {6 [1 2 3]}]}")
	m = walk(t, m, none(), up(1))
	trails(t, m, "{9 [{5 [1 2]} {6 [1 2 3]} {7 [2 3]}]}")
	m = walk(t, m, down(1)) // they acted ahead, too: that Span is gone
	trails(t, m, "{10 [{5 [1 2]} {7 [2 3]} {9 [1 2 3]}]}")
	m = walk(t, m, clean(1, 10))
	all, empty := "{10 [{5 [1 2]} {7 [2 3]} {9 [1 2 3]}]}", "{10 []}"
	trails(t, m, all, empty, all)
	m = walk(t, m, down(2)) // so did these, in the middle
	all, empty = "{12 [{5 [1 2]} {9 [1 2 3]} {10 [2 3]}]}", "{12 [{10 [2 3]}]}"
	trails(t, m, all, empty, all)
	m = walk(t, m, down(3)) // one acted
	all, empty = "{13 [{5 [1 2]} {9 [1 2 3]} {10 [2 3]}]}", "{13 [{10 [2 3]}]}"
	trails(t, m, all, empty, all)
	m = walk(t, m, up(1), up(2), down(2)) // the first Span of all
	all, empty = "{16 [{9 [1 2 3]} {10 [2 3]} {15 [1 2]}]}", "{16 [{10 [2 3]} {15 [1 2]}]}"
	trails(t, m, all, empty, all)
}

// TestTrailsOfOrder: who acts in another order acts otherwise, for the first one leads; a Span has them rising.
func TestTrailsOfOrder(t *testing.T) {
	m := walk(t, start(t, 2, 1, 2, 3), up(1), up(2), up(3), pinTo(0, 1, 2), pinTo(1, 3))
	m.Trails = []api.Trail{{Since: 7}, {Since: 8}}
	m = walk(t, m, pinTo(0, 2, 1))
	trails(t, m, "{9 [{7 [1 2]}]}", "{8 []}")
	m = walk(t, m, pinTo(0, 1, 2))
	trails(t, m, "{10 [{9 [1 2]}]}", "{8 []}")
	m = walk(t, m, pinTo(1, 3, 1))
	trails(t, m, "{10 [{9 [1 2]}]}", "{11 [{8 [3]}]}")
	m = walk(t, m, down(3))
	trails(t, m, "{10 [{9 [1 2]}]}", "{12 [{8 [3]} {11 [1 3]}]}")
	m = walk(t, m, pinTo(1, 1, 3)) // the one that is down stands elsewhere: who acts does not change
	trails(t, m, "{10 [{9 [1 2]}]}", "{12 [{8 [3]} {11 [1 3]}]}")
	m = walk(t, m, up(3))
	trails(t, m, "{10 [{9 [1 2]}]}", "{14 [{8 [3]} {11 [1 3]} {12 [1]}]}")
	m = walk(t, m, pinTo(1, 3))
	trails(t, m, "{10 [{9 [1 2]}]}", "{15 [{8 [3]} {12 [1]} {14 [1 3]}]}")
}

// TestTrailsOfWeights: who acts changes also where the rule tells others.
func TestTrailsOfWeights(t *testing.T) {
	m := walk(t, start(t, 2, 2, 8, 2), up(1), up(2))
	trails(t, m, "{4 []}")
	m = walk(t, m, weigh(1, 0))
	trails(t, m, "{5 [{4 [1 2]}]}")
	m = walk(t, m, weigh(1, 50))
	trails(t, m, "{6 [{4 [1 2]}]}")
	m = walk(t, m, of(api.DeltaOut, 2))
	trails(t, m, "{7 [{6 [1 2]}]}")
	m = walk(t, m, of(api.DeltaIn, 2), weigh(1, 0), down(1), clean(0, 9))
	if got := fmt.Sprint(m.Trails); got[:len("[{9 []} {9 [{8 [1 2]}]} ")] != "[{9 []} {9 [{8 [1 2]}]} " {
		t.Errorf("trails: %s", got)
	}
	lone := walk(t, start(t, 1, 1, 8, 1), up(1), add(2, 2, 1, topWeight))
	moved := 0
	for group, trail := range lone.Trails {
		want := "{2 []}"
		if maps.Raw(lone, group)[0] == 2 {
			moved++
			want = "{3 [{2 [1]}]}"
		}
		if fmt.Sprint(trail) != want {
			t.Errorf("group %d: %v, not %s", group, trail, want)
		}
	}
	if moved < 4 {
		t.Errorf("%d groups moved: too few to tell", moved)
	}
}

func TestRawAndActing(t *testing.T) {
	m := town()
	for group := range 4 {
		want := place.Of(m.Nodes, group, 3)
		if group == 1 {
			want = []int{8, 20, 3}
		}
		if group == 3 {
			want = []int{11}
		}
		if got := maps.Raw(m, group); !slices.Equal(got, want) {
			t.Errorf("Raw(%d): %v, not %v", group, got, want)
		}
		upper := slices.DeleteFunc(slices.Clone(want), func(id int) bool { return !slices.Contains([]int{3, 8, 11, 30}, id) })
		if got := maps.Acting(m, group); !slices.Equal(got, upper) || len(got) == 0 {
			t.Errorf("Acting(%d): %v, not %v", group, got, upper)
		}
	}
	if got := maps.Acting(m, 1); !slices.Equal(got, []int{8, 3}) {
		t.Errorf("Acting(1): %v", got)
	}
	for _, group := range []int{math.MinInt, -1 << 32, -1, 4, 5, 7, 8, 1 << 32, math.MaxInt} {
		if a, b := maps.Raw(m, group), maps.Acting(m, group); len(a)+len(b) > 0 {
			t.Errorf("group %d: Raw %v, Acting %v", group, a, b)
		}
	}
}

// TestRawOfSizes: the Size is the map's, and so is the group.
func TestRawOfSizes(t *testing.T) {
	unlike := map[string]int{}
	for size := 1; size <= 3; size++ {
		m := start(t, size, 1, 8, 9)
		for group := range 8 {
			got := maps.Raw(m, group)
			if len(got) != size || !slices.Equal(got, place.Of(m.Nodes, group, size)) {
				t.Errorf("size %d, group %d: %v", size, group, got)
			}
			unlike[fmt.Sprint(got)]++
			if l := maps.Acting(m, group); len(l) > 0 {
				t.Errorf("size %d, group %d: Acting %v", size, group, l)
			}
			for _, id := range got {
				m = walk(t, m, up(id))
				if l := maps.Acting(m, group); len(l) == 0 || l[len(l)-1] != id {
					t.Errorf("size %d, group %d, with %d: Acting %v", size, group, id, l)
				}
			}
			for _, id := range got {
				m = walk(t, m, down(id))
			}
		}
	}
	if len(unlike) < 16 {
		t.Errorf("%v: too few to tell", unlike)
	}
}

func TestNextAndFold(t *testing.T) {
	m := town()
	if got := maps.Fold(m, nil); text(got) != text(m) {
		t.Errorf("Fold of nothing: %+v", got)
	}
	l := []api.Delta{of(api.DeltaUp, 3), {Kind: 11}, none(), add(3, 1, 1, 1), pinTo(3), clean(0, 1), pinTo(3)}
	want := with(m, func(m *api.Map) { m.Epoch, m.Temps = 57, m.Temps[:1] })
	want.Trails[3] = api.Trail{Since: 55} // one acted, two must
	if got := maps.Fold(m, l); text(got) != text(want) {
		t.Errorf("Fold: %+v, not %+v", got, want)
	}
	ends := with(m, func(m *api.Map) { m.Epoch = top - 1 })
	want = with(m, func(m *api.Map) { m.Epoch, m.Nodes[1].Up = top, true })
	for _, l := range [][]api.Delta{{up(5)}, {up(5), up(14)}, {up(5), {}, down(5), none()}} {
		if got := maps.Fold(ends, l); text(got) != text(want) {
			t.Errorf("Fold(%+v) up to the last epoch: %+v, not %+v", l, got, want)
		}
	}
	if got := maps.Next(want, none()); text(got) != text(want) {
		t.Errorf("Next at the last epoch: %+v", got)
	}
	if got := maps.Next(ends, up(3)); got.Epoch != top {
		t.Errorf("Next, refused, ahead of the last epoch: %+v", got)
	}
}

func TestExample(t *testing.T) {
	m, e := maps.New(3, 2, 4)
	if l := maps.Raw(m, 0); e != api.OK || len(l) > 0 {
		t.Errorf("Raw: %v, %d", l, e)
	}
}

// TestSame holds town against maps that are unlike it in one thing each.
func TestSame(t *testing.T) {
	changes := []func(*api.Map){
		func(m *api.Map) { m.Epoch++ }, func(m *api.Map) { m.Size-- }, func(m *api.Map) { m.Min-- }, func(m *api.Map) { m.Groups++ },
		func(m *api.Map) { m.Nodes[8].Id++ }, func(m *api.Map) { m.Nodes[0].Zone++ }, func(m *api.Map) { m.Nodes[4].Rack++ },
		func(m *api.Map) { m.Nodes[4].Weight++ }, func(m *api.Map) { m.Nodes[4].Up = false }, func(m *api.Map) { m.Nodes[4].In = false },
		func(m *api.Map) { m.Nodes = m.Nodes[:8] }, func(m *api.Map) { m.Nodes = nil },
		func(m *api.Map) { m.Nodes = append(m.Nodes, api.Node{Id: 31, Zone: 1, Rack: 1}) },
		func(m *api.Map) { m.Temps = m.Temps[:1] }, func(m *api.Map) { m.Temps = nil }, func(m *api.Map) { m.Temps = append(m.Temps, pin(3, 11)) },
		func(m *api.Map) { m.Temps[0].Group = 0 }, func(m *api.Map) { m.Temps[1].Group = 2 }, func(m *api.Map) { m.Temps[1].Nodes = nil },
		func(m *api.Map) { m.Temps[0].Nodes = []int{8, 3, 20} }, func(m *api.Map) { m.Temps[0].Nodes = []int{8, 20} },
		func(m *api.Map) { m.Temps[1].Nodes[0]++ },
		func(m *api.Map) { m.Trails = m.Trails[:3] }, func(m *api.Map) { m.Trails = nil },
		func(m *api.Map) { m.Trails = append(m.Trails, api.Trail{}) }, func(m *api.Map) { m.Trails[3].Since++ }, func(m *api.Map) { m.Trails[0].Since-- },
		func(m *api.Map) { m.Trails[2].Past = nil }, func(m *api.Map) { m.Trails[2].Past = m.Trails[2].Past[:2] },
		func(m *api.Map) { m.Trails[3].Past = []api.Span{span(0, 1)} }, func(m *api.Map) { m.Trails[2].Past[2].From-- },
		func(m *api.Map) { m.Trails[2].Past[0].Nodes[2]++ }, func(m *api.Map) { m.Trails[2].Past[0].Nodes = []int{1, 2} },
		func(m *api.Map) { m.Trails[1].Past[0].Nodes = []int{3, 8, 9} },
	}
	l := []api.Map{town()}
	for _, change := range changes {
		l = append(l, with(town(), change))
	}
	for i, a := range l {
		for j, b := range l {
			if got := maps.Same(a, deep(b)); got != (i == j) {
				t.Errorf("Same(%+v, %+v): %v", a, b, got)
			}
		}
	}
	for _, m := range append(rightMaps(), wrongMaps()...) {
		if !maps.Same(m, deep(m)) {
			t.Errorf("Same(%.300s) of itself: false", text(m))
		}
	}
	empty := api.Map{Size: 1, Min: 1, Groups: 1, Nodes: []api.Node{}, Temps: []api.Temp{}, Trails: []api.Trail{{Past: []api.Span{}}}}
	if m, _ := maps.New(1, 1, 1); !maps.Same(m, empty) || !maps.Same(empty, m) {
		t.Error("Same of nil and the empty list: false")
	}
}

// others tells whether all groups but one stand, and act, as they did, since when they did.
func others(a, b api.Map, but int) bool {
	for group := range a.Groups {
		if group != but && (!slices.Equal(maps.Raw(a, group), maps.Raw(b, group)) ||
			!slices.Equal(maps.Acting(a, group), maps.Acting(b, group)) || fmt.Sprint(a.Trails[group]) != fmt.Sprint(b.Trails[group])) {
			return false
		}
	}
	return true
}

// TestWhatFollows holds drawn maps and deltas against Mp3.
func TestWhatFollows(t *testing.T) {
	c := chance(88172645463325252)
	moved, kept := 0, 0
	for i := range 60 {
		size := 1 + i%3
		m, _ := maps.New(size, 1+c.below(size), 1+c.below(8))
		acted := make([]map[string]bool, m.Groups) // who acted since all was made clean, of each group
		for group := range acted {
			acted[group] = map[string]bool{}
		}
		for range 120 {
			d := c.delta(m)
			next, e := maps.Apply(m, d)
			if maps.Check(next) != api.OK || maps.Check(maps.Next(m, d)) != api.OK {
				t.Fatalf("behind %+v, %+v: %+v may not be", m, d, next)
			}
			if e != api.OK {
				continue
			}
			if (d.Kind == api.DeltaTemp || d.Kind == api.DeltaClean) && !others(m, next, d.Group) {
				t.Fatalf("%+v moved others of %+v", d, m)
			}
			if d.Kind == api.DeltaClean {
				acted[d.Group] = map[string]bool{}
			}
			for group := range m.Groups {
				raw := slices.Equal(maps.Raw(m, group), maps.Raw(next, group))
				if (d.Kind == api.DeltaUp || d.Kind == api.DeltaDown) && !raw {
					t.Fatalf("%+v moved group %d of %+v", d, group, m)
				}
				if !raw {
					moved++
				}
				now := maps.Acting(next, group)
				slices.Sort(now)
				known := map[string]bool{fmt.Sprint(now): true}
				for _, s := range next.Trails[group].Past {
					known[fmt.Sprint(s.Nodes)] = true
				}
				for l := range acted[group] {
					kept++
					if !known[l] {
						t.Fatalf("group %d: %s acted, but %+v does not know", group, l, next)
					}
				}
				if len(now) >= next.Min {
					acted[group][fmt.Sprint(now)] = true
				}
			}
			m = next
		}
	}
	if moved < 1000 || kept < 10000 {
		t.Errorf("%d moved, %d kept: too few to tell", moved, kept)
	}
}
