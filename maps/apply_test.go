package maps_test

import (
	"math"
	"slices"
	"strings"
	"testing"

	"windrose/api"
	"windrose/maps"
)

func add(node, zone, rack, weight int) api.Delta {
	return api.Delta{Kind: api.DeltaAdd, Node: node, Zone: zone, Rack: rack, Weight: weight}
}

func weigh(node, weight int) api.Delta {
	return api.Delta{Kind: api.DeltaWeight, Node: node, Weight: weight}
}

func of(kind, node int) api.Delta { return api.Delta{Kind: kind, Node: node} }

func pinTo(group int, nodes ...int) api.Delta {
	return api.Delta{Kind: api.DeltaTemp, Group: group, Nodes: nodes}
}

func clean(group, since int) api.Delta {
	return api.Delta{Kind: api.DeltaClean, Group: group, Weight: since}
}

func none() api.Delta { return api.Delta{Kind: api.DeltaNone} }

// fine are deltas that nothing refuses of town, each with what it does but that Epoch is one more. None of them changes who acts.
func fine() []struct {
	d  api.Delta
	do func(*api.Map)
} {
	return []struct {
		d  api.Delta
		do func(*api.Map)
	}{
		{add(1, 9, 9, 0), func(m *api.Map) {
			m.Nodes = slices.Concat([]api.Node{{Id: 1, Zone: 9, Rack: 9, In: true}}, m.Nodes)
		}},
		{add(10, 2, 1, 0), func(m *api.Map) {
			m.Nodes = slices.Concat(m.Nodes[:4], []api.Node{{Id: 10, Zone: 2, Rack: 1, In: true}}, m.Nodes[4:])
		}},
		{add(999, 1, 1, 0), func(m *api.Map) { m.Nodes = append(m.Nodes, api.Node{Id: 999, Zone: 1, Rack: 1, In: true}) }},
		{weigh(14, 0), func(m *api.Map) { m.Nodes[5].Weight = 0 }},
		{weigh(14, 71), func(m *api.Map) { m.Nodes[5].Weight = 71 }},
		{weigh(14, topWeight), func(m *api.Map) { m.Nodes[5].Weight = topWeight }},
		{of(api.DeltaUp, 5), func(m *api.Map) { m.Nodes[1].Up = true }},
		{of(api.DeltaUp, 14), func(m *api.Map) { m.Nodes[5].Up = true }},
		{of(api.DeltaDown, 30), func(m *api.Map) { m.Nodes[8].Up = false }},
		{of(api.DeltaOut, 5), func(m *api.Map) { m.Nodes[1].In = false }},
		{of(api.DeltaRemove, 5), func(m *api.Map) { m.Nodes = slices.Delete(m.Nodes, 1, 2) }},
		{of(api.DeltaRemove, 14), func(m *api.Map) { m.Nodes = slices.Delete(m.Nodes, 5, 6) }},
		{pinTo(1, 8, 3), func(m *api.Map) { m.Temps[0].Nodes = []int{8, 3} }},
		{pinTo(1, 8, 21, 3), func(m *api.Map) { m.Temps[0].Nodes = []int{8, 21, 3} }},
		{pinTo(1, 20, 8, 3), func(m *api.Map) { m.Temps[0].Nodes = []int{20, 8, 3} }},
		{pinTo(3, 20, 11), func(m *api.Map) { m.Temps[1].Nodes = []int{20, 11} }},
		{none(), func(m *api.Map) {}},
		{clean(1, 30), func(m *api.Map) { m.Trails[1].Past = nil }},
		{clean(2, 50), func(m *api.Map) { m.Trails[2].Past = nil }},
	}
}

func TestApplyWhatIsDone(t *testing.T) {
	for _, x := range fine() {
		want := with(town(), x.do)
		want.Epoch = 51
		got, e := maps.Apply(town(), x.d)
		if e != api.OK || text(got) != text(want) {
			t.Errorf("Apply(%+v): %d,\n%+v, not\n%+v", x.d, e, got, want)
		}
		if next := maps.Next(town(), x.d); text(next) != text(want) {
			t.Errorf("Next(%+v): %+v, not %+v", x.d, next, want)
		}
		if fold := maps.Fold(town(), []api.Delta{x.d}); text(fold) != text(want) {
			t.Errorf("Fold(%+v): %+v, not %+v", x.d, fold, want)
		}
	}
}

// TestApplyPins pins groups that have no Temp where they stand already: who acts does not change, but there are Temps then.
func TestApplyPins(t *testing.T) {
	for _, group := range []int{0, 2} {
		here := maps.Raw(town(), group)
		if len(here) != 3 {
			t.Fatalf("Raw: %v", here)
		}
		want := town()
		want.Epoch = 51
		want.Temps = slices.Insert(want.Temps, min(group, 1), pin(group, here...))
		got, e := maps.Apply(town(), pinTo(group, here...))
		if e != api.OK || text(got) != text(want) {
			t.Errorf("pinned: %d, %+v, not %+v", e, got, want)
		}
		want = town()
		want.Epoch = 52
		got, e = maps.Apply(got, pinTo(group))
		if e != api.OK || text(got) != text(want) {
			t.Errorf("no longer pinned: %d, %+v, not %+v", e, got, want)
		}
	}
}

// refused are deltas that are refused, and why: where two refusals strike, the first one of them.
func refused() []struct {
	m    api.Map
	d    api.Delta
	want api.Errno
} {
	town, full := town(), full()
	idle := with(full, func(m *api.Map) { m.Temps = []api.Temp{pin(0, 10, 20)} })
	return []struct {
		m    api.Map
		d    api.Delta
		want api.Errno
	}{
		{town, add(3, 1, 1, 100), api.ErrSame}, {town, add(3, 9, 9, 7), api.ErrSame}, {town, add(30, 0, 1, 1), api.ErrSame},
		{town, add(5, 1, 1, -1), api.ErrSame}, {full, add(120, 1, 1, 1), api.ErrSame}, {full, add(10, 0, 0, -1), api.ErrSame},
		{full, add(1, 1, 1, 1), api.ErrFull}, {full, add(999, 9, 9, 0), api.ErrFull}, {full, add(0, 1, 1, 1), api.ErrFull},
		{full, add(1000, 1, 1, 1), api.ErrFull}, {full, add(1, 0, 1, 1), api.ErrFull}, {full, add(1, 1, 1, -1), api.ErrFull},
		{town, add(0, 1, 1, 1), api.ErrArg}, {town, add(-1, 1, 1, 1), api.ErrArg}, {town, add(1000, 1, 1, 1), api.ErrArg},
		{town, add(1, 0, 1, 1), api.ErrArg}, {town, add(1, 10, 1, 1), api.ErrArg}, {town, add(1, -1, 1, 1), api.ErrArg},
		{town, add(1, 1, 0, 1), api.ErrArg}, {town, add(1, 1, 10, 1), api.ErrArg}, {town, add(1, 1, -1, 1), api.ErrArg},
		{town, add(1, 1, 1, -1), api.ErrArg}, {town, add(1, 1, 1, topWeight+1), api.ErrArg}, {town, add(math.MaxInt, 1, 1, 1), api.ErrArg},
		{town, add(math.MinInt, 1, 1, 1), api.ErrArg}, {town, add(1, math.MaxInt, 1, 1), api.ErrArg}, {town, add(1, 1, math.MinInt, 1), api.ErrArg},

		{town, weigh(4, 5), api.ErrNone}, {town, weigh(0, 0), api.ErrNone}, {town, weigh(1000, 0), api.ErrNone},
		{town, weigh(4, -1), api.ErrNone}, {town, weigh(4, topWeight+1), api.ErrNone}, {town, weigh(math.MaxInt, 5), api.ErrNone},
		{town, weigh(3, -1), api.ErrArg}, {town, weigh(3, topWeight+1), api.ErrArg}, {town, weigh(3, math.MaxInt), api.ErrArg},
		{town, weigh(3, math.MinInt), api.ErrArg}, {town, weigh(3, 100), api.ErrSame}, {town, weigh(5, 0), api.ErrSame},
		{town, weigh(30, topWeight), api.ErrSame}, {town, weigh(14, 70), api.ErrSame},

		{town, of(api.DeltaUp, 4), api.ErrNone}, {town, of(api.DeltaUp, 0), api.ErrNone}, {town, of(api.DeltaUp, 3), api.ErrSame},
		{town, of(api.DeltaUp, 30), api.ErrSame}, {town, of(api.DeltaUp, math.MinInt), api.ErrNone}, {town, of(api.DeltaDown, 31), api.ErrNone},
		{town, of(api.DeltaDown, 0), api.ErrNone}, {town, of(api.DeltaDown, 5), api.ErrSame}, {town, of(api.DeltaDown, 14), api.ErrSame},
		{town, of(api.DeltaOut, 1000), api.ErrNone}, {town, of(api.DeltaOut, 14), api.ErrSame}, {town, of(api.DeltaOut, 30), api.ErrSame},
		{town, of(api.DeltaIn, -1), api.ErrNone}, {town, of(api.DeltaIn, 3), api.ErrSame}, {town, of(api.DeltaIn, 5), api.ErrSame},

		{town, of(api.DeltaRemove, 4), api.ErrNone}, {town, of(api.DeltaRemove, 0), api.ErrNone},
		{town, of(api.DeltaRemove, 999), api.ErrNone}, // of a Span, but not there
		{town, of(api.DeltaRemove, 30), api.ErrWait},  // Up alone
		{town, of(api.DeltaRemove, 9), api.ErrWait},   // In, and weighs something
		{town, of(api.DeltaRemove, 20), api.ErrWait},  // in a Temp
		{town, of(api.DeltaRemove, 21), api.ErrWait},  // in a Span
		{town, of(api.DeltaRemove, 3), api.ErrWait},   // all of it
		{idle, of(api.DeltaRemove, 10), api.ErrWait},  // the first of a Temp, that weighs nothing
		{with(town, func(m *api.Map) { m.Trails[3] = api.Trail{Since: 1, Past: []api.Span{span(0, 5, 14)}} }), of(api.DeltaRemove, 14), api.ErrWait},

		{town, pinTo(-1, 3), api.ErrArg}, {town, pinTo(4, 3), api.ErrArg}, {town, pinTo(4), api.ErrArg}, {town, pinTo(-1), api.ErrArg},
		{town, pinTo(4, 3, 5), api.ErrArg}, {town, pinTo(math.MaxInt, 3), api.ErrArg}, {town, pinTo(math.MinInt), api.ErrArg},
		{town, pinTo(0, 3, 8, 11, 20), api.ErrArg}, {town, pinTo(0, 3, 3, 3, 3), api.ErrArg}, {town, pinTo(0, 1, 2, 4, 6), api.ErrArg},
		{town, pinTo(0), api.ErrSame}, {town, pinTo(2), api.ErrSame}, {town, pinTo(1, 8, 20, 3), api.ErrSame}, {town, pinTo(3, 11), api.ErrSame},
		{town, pinTo(0, 3, 5), api.ErrZone}, {town, pinTo(1, 8, 20, 9), api.ErrZone}, {town, pinTo(0, 3, 3), api.ErrZone},
		{town, pinTo(0, 4), api.ErrZone}, {town, pinTo(0, 3, 999), api.ErrZone}, {town, pinTo(0, 0), api.ErrZone},
		{town, pinTo(3, 11, math.MaxInt), api.ErrZone}, {town, pinTo(3, 11, math.MinInt, -1), api.ErrZone},

		{town, clean(-1, 0), api.ErrArg}, {town, clean(4, 0), api.ErrArg}, {town, clean(math.MaxInt, 50), api.ErrArg}, {town, clean(math.MinInt, 50), api.ErrArg},
		{town, clean(1, 29), api.ErrNone}, {town, clean(1, 31), api.ErrNone}, {town, clean(1, 50), api.ErrNone}, {town, clean(1, 0), api.ErrNone},
		{town, clean(2, 49), api.ErrNone}, {town, clean(2, 51), api.ErrNone}, {town, clean(0, 39), api.ErrNone}, {town, clean(3, 1), api.ErrNone},
		{town, clean(3, -1), api.ErrNone}, {town, clean(2, math.MaxInt), api.ErrNone}, {town, clean(2, math.MinInt), api.ErrNone},
		{town, clean(0, 40), api.ErrSame}, {town, clean(3, 0), api.ErrSame},
	}
}

// refuses holds Apply, Next and Fold against a refusal.
func refuses(t *testing.T, m api.Map, d api.Delta, want api.Errno) {
	t.Helper()
	got, e := maps.Apply(m, d)
	if e != want || text(got) != text(m) {
		t.Errorf("Apply(%+v): %d, not %d; %+v", d, e, want, got)
	}
	next := m
	if m.Epoch < top {
		next.Epoch++
	}
	if got := maps.Next(m, d); text(got) != text(next) {
		t.Errorf("Next(%+v), refused: %+v", d, got)
	}
	if got := maps.Fold(m, []api.Delta{d}); text(got) != text(next) {
		t.Errorf("Fold(%+v), refused: %+v", d, got)
	}
}

func TestApplyRefuses(t *testing.T) {
	for _, x := range refused() {
		refuses(t, x.m, x.d, x.want)
	}
}

func TestApplyOfKindsThatAreNone(t *testing.T) {
	ends := with(town(), func(m *api.Map) { m.Epoch = top })
	for _, kind := range []int{math.MinInt, -1 << 32, -2, -1, 0, 11, 12, 100, top, 1 << 32, 1<<32 + 1, 1<<32 + 9, math.MaxInt} {
		refuses(t, town(), api.Delta{Kind: kind}, api.ErrArg)
		refuses(t, town(), api.Delta{Kind: kind, Node: 5}, api.ErrArg)
		refuses(t, ends, api.Delta{Kind: kind}, api.ErrArg)
	}
}

// asked are deltas, one of each kind, whose asked fields are what nothing refuses of town.
func asked() []api.Delta {
	return []api.Delta{add(1, 1, 1, 1), weigh(3, 7), of(api.DeltaUp, 5), of(api.DeltaDown, 3), of(api.DeltaOut, 3), of(api.DeltaIn, 14),
		of(api.DeltaRemove, 14), pinTo(0, 3), none(), clean(1, 30)}
}

func TestApplyOfWhatIsNotAsked(t *testing.T) {
	fields := []struct {
		name string
		at   func(*api.Delta) *int
	}{
		{"Node", func(d *api.Delta) *int { return &d.Node }}, {"Zone", func(d *api.Delta) *int { return &d.Zone }},
		{"Rack", func(d *api.Delta) *int { return &d.Rack }}, {"Weight", func(d *api.Delta) *int { return &d.Weight }},
		{"Group", func(d *api.Delta) *int { return &d.Group }},
	}
	ends := with(town(), func(m *api.Map) { m.Epoch = top })
	spare := 0
	for i, d := range asked() {
		if d.Kind != i+1 {
			t.Fatalf("kind %d: %+v", i+1, d)
		}
		if _, e := maps.Apply(town(), d); e != api.OK {
			t.Errorf("Apply(%+v): %d", d, e)
		}
		for _, f := range fields {
			for _, x := range []int{math.MinInt, -1, 1, 3, 1 << 32, math.MaxInt} {
				odd := d
				if at := f.at(&odd); !slices.Contains(strings.Fields(asks(d.Kind)), f.name) {
					*at = x
					spare++
					refuses(t, town(), odd, api.ErrArg)
					refuses(t, ends, odd, api.ErrArg)
				}
			}
		}
		empty := d
		empty.Nodes = append([]int{}, d.Nodes...)
		if _, e := maps.Apply(town(), empty); e != api.OK {
			t.Errorf("Apply(%+v) with an empty list: %d", empty, e)
		}
		if d.Kind != api.DeltaTemp {
			for _, l := range [][]int{{0}, {1}, {3}, {-1}, make([]int, 1000)} {
				odd := d
				odd.Nodes = l
				refuses(t, town(), odd, api.ErrArg)
				refuses(t, ends, odd, api.ErrArg)
			}
		}
	}
	if spare != 6*(1+3+5*4+4+5+3) {
		t.Errorf("%d fields were not asked", spare)
	}
}

// TestApplyAtTheLastEpoch: ErrFull stands ahead of what the kinds refuse, and behind ErrArg of what is not asked.
func TestApplyAtTheLastEpoch(t *testing.T) {
	ends := func(m *api.Map) { m.Epoch = top }
	for _, d := range asked() {
		refuses(t, with(town(), ends), d, api.ErrFull)
		odd := d
		odd.Zone, odd.Group = odd.Zone+1, odd.Group+1
		refuses(t, with(town(), ends), odd, api.ErrArg)
	}
	for _, x := range refused() {
		refuses(t, with(x.m, ends), x.d, api.ErrFull)
	}
	for _, x := range fine() {
		m := with(town(), func(m *api.Map) { m.Epoch = top - 1 })
		want := with(m, x.do)
		want.Epoch = top
		if got, e := maps.Apply(m, x.d); e != api.OK || text(got) != text(want) {
			t.Errorf("Apply(%+v): %d, %+v, not %+v", x.d, e, got, want)
		}
	}
}

func TestOfMapsThatMayNotBe(t *testing.T) {
	for _, m := range wrongMaps() {
		for _, d := range append(asked(), api.Delta{}, pinTo(0), add(0, 0, 0, 0)) {
			if got, e := maps.Apply(m, d); e != api.ErrArg || text(got) != text(api.Map{}) {
				t.Errorf("Apply(%.300s, %+v): %.300s, %d", text(m), d, text(got), e)
			}
			if got := maps.Next(m, d); text(got) != text(api.Map{}) {
				t.Errorf("Next(%.300s, %+v): %.300s", text(m), d, text(got))
			}
			if got := maps.Fold(m, []api.Delta{d, d}); text(got) != text(api.Map{}) {
				t.Errorf("Fold(%.300s, %+v): %.300s", text(m), d, text(got))
			}
		}
		if got := maps.Fold(m, nil); text(got) != text(api.Map{}) {
			t.Errorf("Fold(%.300s) of nothing: %.300s", text(m), text(got))
		}
		for group := -1; group < 5; group++ {
			if l := maps.Raw(m, group); len(l) > 0 {
				t.Errorf("Raw(%.300s, %d): %v", text(m), group, l)
			}
			if l := maps.Acting(m, group); len(l) > 0 {
				t.Errorf("Acting(%.300s, %d): %v", text(m), group, l)
			}
		}
	}
}

// TestApplyByWords holds drawn maps and deltas against the chapter's words.
func TestApplyByWords(t *testing.T) {
	c := chance(2463534242)
	count := map[[2]int]int{}
	for i := range 60 {
		l, deltas := c.run(1+i%3, 1+c.below(1+i%3), 1+c.below(8), 150)
		for at, d := range deltas {
			want, e := slowApply(l[at], d)
			got, f := maps.Apply(l[at], d)
			if e != f || text(got) != text(want) {
				t.Fatalf("Apply(%+v, %+v): %d, not %d\n%+v, not\n%+v", l[at], d, f, e, got, want)
			}
			if got := maps.Next(l[at], d); text(got) != text(l[at+1]) {
				t.Fatalf("Next(%+v, %+v): %+v, not %+v", l[at], d, got, l[at+1])
			}
			count[[2]int{d.Kind, int(e)}]++
		}
		from := c.below(len(l))
		for to := from; to < len(l); to += 1 + c.below(30) {
			if got := maps.Fold(l[from], deltas[from:to]); text(got) != text(l[to]) {
				t.Fatalf("Fold(%+v, %+v): %+v, not %+v", l[from], deltas[from:to], got, l[to])
			}
		}
	}
	for kind, l := range map[int][]api.Errno{
		api.DeltaAdd: {api.OK, api.ErrArg, api.ErrSame, api.ErrFull}, api.DeltaWeight: {api.OK, api.ErrArg, api.ErrSame, api.ErrNone},
		api.DeltaUp: {api.OK, api.ErrNone, api.ErrSame}, api.DeltaDown: {api.OK, api.ErrNone, api.ErrSame},
		api.DeltaOut: {api.OK, api.ErrNone, api.ErrSame}, api.DeltaIn: {api.OK, api.ErrNone, api.ErrSame},
		api.DeltaRemove: {api.OK, api.ErrNone, api.ErrWait}, api.DeltaTemp: {api.OK, api.ErrArg, api.ErrSame, api.ErrZone},
		api.DeltaNone: {api.OK, api.ErrArg}, api.DeltaClean: {api.OK, api.ErrArg, api.ErrNone, api.ErrSame},
	} {
		for _, e := range l {
			if count[[2]int{kind, int(e)}] < 5 {
				t.Errorf("kind %d told %d %d times: too few to tell", kind, e, count[[2]int{kind, int(e)}])
			}
		}
	}
}
