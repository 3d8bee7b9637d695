package place_test

import (
	"maps"
	"math"
	"regexp"
	"slices"
	"testing"

	"windrose/api"
	"windrose/draw"
	"windrose/mix"
	"windrose/place"
)

const topWeight = 65536

// node is one that is In, and up by its Id, for Up tells nothing of where groups stand.
func node(id, zone, rack, weight int) api.Node {
	return api.Node{Id: id, Zone: zone, Rack: rack, Weight: weight, Up: id%2 == 0, In: true}
}

// out is a node that is not In.
func out(id, zone, rack, weight int) api.Node {
	n := node(id, zone, rack, weight)
	n.In = false
	return n
}

// town has racks of one number in several zones, a node that is out in a rack with another one, and a zone that weighs nothing.
func town() []api.Node {
	return []api.Node{
		node(3, 2, 1, 100), node(7, 1, 1, 100), node(8, 1, 2, 300), node(11, 3, 1, 250),
		out(12, 3, 1, topWeight), node(20, 2, 2, 200), node(31, 3, 2, 170), node(44, 1, 1, 100),
		node(45, 4, 9, 0), node(60, 2, 1, 150), node(500, 5, 3, 400), node(999, 5, 3, 30),
	}
}

func take() api.Step { return api.Step{Kind: api.StepTake} }
func emit() api.Step { return api.Step{Kind: api.StepEmit} }

func zones(n int) api.Step { return api.Step{Kind: api.StepChoose, Level: api.LevelZone, N: n} }
func racks(n int) api.Step { return api.Step{Kind: api.StepChoose, Level: api.LevelRack, N: n} }
func leaves(n int) api.Step {
	return api.Step{Kind: api.StepChoose, Level: api.LevelNode, N: n}
}

func rule(l ...api.Step) []api.Step { return l }

// chance is a row of numbers without a pattern, the same in each run.
type chance uint64

func (c *chance) next() uint64 {
	x := uint64(*c)
	x ^= x << 13
	x ^= x >> 7
	x ^= x << 17
	*c = chance(x)
	return x
}

func (c *chance) below(n int) int { return int(c.next() >> 33 % uint64(n)) }

// weight is one that may be, the edges among them often.
func (c *chance) weight() int {
	edges := []int{0, 0, 1, topWeight - 1, topWeight}
	if at := c.below(3 * len(edges)); at < len(edges) {
		return edges[at]
	}
	return c.below(topWeight/(1<<c.below(8)) + 1)
}

// nodes are n that may be, in zones and racks up to some numbers.
func (c *chance) nodes(n, zones, racks int) []api.Node {
	var l []api.Node
	id := 1 + c.below(3)
	for range n {
		l = append(l, api.Node{Id: id, Zone: 1 + c.below(zones), Rack: 1 + c.below(racks), Weight: c.weight(),
			Up: c.below(2) == 0, In: c.below(4) > 0})
		id += 1 + c.below(80)
	}
	return l
}

// rule is one that may be: rows of steps behind StepTakes, as long as they fit.
func (c *chance) rule() []api.Step {
	n := func() int { return 1 + c.below(1+c.below(12)) }
	var l []api.Step
	for {
		row := []api.Step{take()}
		switch c.below(10) {
		case 0:
			// a StepTake alone
		case 1:
			row = append(row, zones(n()))
		case 2:
			row = append(row, zones(n()), racks(n()))
		case 3:
			row = append(row, leaves(n()))
		case 4, 5:
			row = append(row, leaves(n()), emit())
		case 6, 7:
			row = append(row, zones(n()), leaves(n()), emit())
		default:
			row = append(row, zones(n()), racks(n()), leaves(n()), emit())
		}
		if len(l)+len(row) > 8 {
			return l
		}
		l = append(l, row...)
	}
}

// drawn are lists of nodes that may be, of all lengths.
func drawn(times int) [][]api.Node {
	c := chance(88172645463325252)
	var l [][]api.Node
	for range times {
		for n := range 13 {
			l = append(l, c.nodes(n, 1+c.below(9), 1+c.below(4)))
		}
	}
	return l
}

// wrongNodes are lists that may not be.
func wrongNodes() [][]api.Node {
	many := make([]api.Node, 13)
	for i := range many {
		many[i] = node(1+i, 1+i%9, 1, 5)
	}
	return [][]api.Node{
		many, {node(0, 1, 1, 1)}, {node(1000, 1, 1, 1)}, {node(-1, 1, 1, 1)}, {node(math.MaxInt, 1, 1, 1)},
		{node(2, 1, 1, 1), node(2, 2, 1, 1)}, {node(2, 1, 1, 1), node(1, 2, 1, 1)},
		{node(1, 0, 1, 1)}, {node(1, 10, 1, 1)}, {node(1, 1, 0, 1)}, {node(1, 1, 10, 1)},
		{node(1, 1, 1, -1)}, {node(1, 1, 1, topWeight+1)}, {out(1, 1, 1, -1)}, {out(1, 1, 1, math.MaxInt)},
	}
}

// strange are numbers that are no kind and no level, and too many of anything.
func strange() []int {
	return []int{math.MinInt, math.MinInt32, -1 << 32, -2, -1, 13, 14, 64, 1000, 1<<31 - 1, 1 << 31, 1 << 32, 1<<32 + 1, 1<<32 + 2,
		1<<32 + 3, math.MaxInt - 1, math.MaxInt}
}

// rightRules are rules that may be.
func rightRules() [][]api.Step {
	l := [][]api.Step{
		{take()}, {take(), take()}, {take(), zones(1)}, {take(), zones(1), racks(1)}, {take(), leaves(1)},
		{take(), zones(1), leaves(1)}, {take(), zones(1), racks(1), leaves(1)},
		{take(), leaves(1), emit()}, {take(), zones(1), leaves(1), emit()}, {take(), zones(1), racks(1), leaves(1), emit()},
		{take(), take(), leaves(1), emit()}, {take(), zones(1), take(), leaves(1), emit()},
		{take(), zones(1), racks(1), take(), zones(1), racks(1), leaves(1), emit()},
		{take(), leaves(1), take(), leaves(1), emit()}, {take(), leaves(1), emit(), take()},
		{take(), leaves(1), emit(), take(), zones(1)}, {take(), leaves(1), emit(), take(), leaves(1), emit()},
		{take(), zones(1), racks(1), leaves(1), emit(), take(), leaves(12), emit()},
		{take(), take(), take(), take(), take(), take(), take(), take()},
	}
	for n := 1; n <= 12; n++ {
		l = append(l, rule(take(), zones(n)), rule(take(), leaves(n), emit()), rule(take(), zones(13-n), racks(n), leaves(n), emit()))
	}
	return l
}

// wrongRules are rules that may not be: each has one fault.
func wrongRules() [][]api.Step {
	l := [][]api.Step{
		nil, {},
		{zones(1)}, {racks(1)}, {leaves(1)}, {emit()}, {{}}, {zones(1), racks(1), leaves(1), emit()}, {leaves(1), emit()},
		{zones(1), take(), leaves(1), emit()}, {emit(), take(), leaves(1), emit()}, {{}, take()},
		{take(), zones(0)}, {take(), zones(13)}, {take(), leaves(0)}, {take(), leaves(13), emit()},
		{take(), zones(1), racks(0)}, {take(), zones(1), racks(13)}, {take(), zones(1), leaves(0), emit()},
		{take(), zones(1), racks(1), leaves(13), emit()},
		{take(), {Kind: api.StepChoose, Level: api.LevelRoot, N: 1}}, {take(), {Kind: api.StepChoose}},
		{take(), zones(1), {Kind: api.StepChoose, Level: api.LevelRoot, N: 1}},
		{take(), leaves(1), {Kind: api.StepChoose, Level: api.LevelRoot, N: 1}},
		{take(), zones(1), zones(1)}, {take(), zones(1), racks(1), racks(1)}, {take(), leaves(1), leaves(1)},
		{take(), zones(1), racks(1), zones(1)}, {take(), leaves(1), zones(1)}, {take(), zones(1), leaves(1), racks(1)},
		{take(), zones(1), leaves(1), zones(1)}, {take(), leaves(1), racks(1)}, {take(), racks(1)},
		{take(), racks(1), leaves(1), emit()}, {take(), zones(1), take(), racks(1), leaves(1), emit()},
		{take(), emit()}, {take(), zones(1), emit()}, {take(), zones(1), racks(1), emit()}, {take(), leaves(1), take(), emit()},
		{take(), leaves(1), emit(), emit()}, {take(), leaves(1), emit(), zones(1)}, {take(), leaves(1), emit(), racks(1)},
		{take(), leaves(1), emit(), leaves(1)}, {take(), leaves(1), emit(), leaves(1), emit()},
		{take(), leaves(1), emit(), {}}, {take(), {}}, {take(), {}, take()},
		{take(), take(), take(), take(), take(), take(), take(), take(), take()},
		{take(), zones(1), racks(1), leaves(1), emit(), take(), zones(1), leaves(1), emit()},
		slices.Repeat(rule(take()), 1000),
	}
	full := []api.Step{take(), zones(2), racks(3), leaves(4), emit(), take(), leaves(5), emit()}
	for at, s := range full {
		for _, x := range append(strange(), 0, 4, 5) {
			kind, level, n := slices.Clone(full), slices.Clone(full), slices.Clone(full)
			kind[at].Kind, level[at].Level, n[at].N = x, x, x
			l = append(l, kind)
			if x != s.Level {
				l = append(l, level)
			}
			if s.Kind != api.StepChoose && x != 0 || s.Kind == api.StepChoose && !(x >= 1 && x <= 12) {
				l = append(l, n)
			}
		}
	}
	for _, x := range append(strange(), 0, 4, 5) { // at the end, where no step behind it can be at fault
		odd := api.Step{Kind: api.StepChoose, Level: x, N: 1}
		l = append(l, rule(take(), odd), rule(take(), zones(1), odd), rule(take(), zones(1), racks(1), odd),
			rule(take(), leaves(1), odd), rule(take(), leaves(1), emit(), odd), rule(take(), odd, take()),
			rule(take(), leaves(1), api.Step{Kind: x}))
	}
	for _, x := range []int{math.MinInt, -1, 1, 2, 3, 12, 1 << 32, math.MaxInt} {
		l = append(l,
			rule(api.Step{Kind: api.StepTake, Level: x}), rule(api.Step{Kind: api.StepTake, N: x}),
			rule(take(), leaves(1), api.Step{Kind: api.StepEmit, Level: x}), rule(take(), leaves(1), api.Step{Kind: api.StepEmit, N: x}))
	}
	return l
}

func TestCheck(t *testing.T) {
	for _, l := range rightRules() {
		if e := place.Check(l); e != api.OK {
			t.Errorf("Check(%v): %d", l, e)
		}
	}
	for _, l := range wrongRules() {
		if e := place.Check(l); e != api.ErrArg {
			t.Errorf("Check(%v): %d, not %d", l, e, api.ErrArg)
		}
	}
}

// TestCheckByPattern holds all rows of up to 5 steps, and all up to 9 that go on from one that may be, against a pattern made of the chapter's words: what stands behind each StepTake.
func TestCheckByPattern(t *testing.T) {
	steps := map[byte]api.Step{'T': take(), 'z': zones(2), 'r': racks(12), 'n': leaves(1), 'E': emit(), 'x': {}}
	may := regexp.MustCompile(`^(T(z|zr|n|zn|zrn|nE|znE|zrnE)?)+$`)
	count := 0
	var grow func(text string, l []api.Step)
	grow = func(text string, l []api.Step) {
		want := api.ErrArg
		if may.MatchString(text) && len(text) <= 8 {
			want = api.OK
			count++
		}
		if e := place.Check(l); e != want {
			t.Errorf("Check of %s: %d, not %d", text, e, want)
		}
		if len(text) == 9 || want != api.OK && len(text) > 4 {
			return // what begins with a wrong one is wrong: the shorter ones show that
		}
		for _, letter := range []byte("TzrnEx") {
			grow(text+string(letter), append(slices.Clone(l), steps[letter]))
		}
	}
	grow("", nil)
	if count < 1000 {
		t.Errorf("%d rules may be: too few to tell", count)
	}
}

func TestCommon(t *testing.T) {
	for size := 1; size <= 3; size++ {
		want := []api.Step{{Kind: 1}, {Kind: 2, Level: 1, N: size}, {Kind: 2, Level: 2, N: 1}, {Kind: 2, Level: 3, N: 1}, {Kind: 3}}
		got := place.Common(size)
		if !slices.Equal(got, want) {
			t.Errorf("Common(%d): %v, not %v", size, got, want)
		}
		if e := place.Check(got); e != api.OK {
			t.Errorf("Check of Common(%d): %d", size, e)
		}
	}
	for _, size := range append(strange(), 0, 4, 5, 12) {
		if got := place.Common(size); len(got) > 0 {
			t.Errorf("Common(%d): %v", size, got)
		}
	}
}

// own is the number that a node's spot of a level goes by.
func own(n api.Node, level int) int {
	switch level {
	case api.LevelZone:
		return n.Zone
	case api.LevelRack:
		return n.Rack
	}
	return n.Id
}

// slowChildren is what a parent has of a level, with what it weighs, by the words of layer 6. (0: no zone, no rack.)
func slowChildren(l []api.Node, level, zone, rack int) []api.Choice {
	sums := map[int]int{}
	for _, n := range l {
		if zone != 0 && n.Zone != zone || rack != 0 && n.Rack != rack {
			continue
		}
		sums[own(n, level)] += 0
		if n.In {
			sums[own(n, level)] += n.Weight
		}
	}
	var told []api.Choice
	for _, id := range slices.Sorted(maps.Keys(sums)) {
		told = append(told, api.Choice{Id: id, Weight: min(sums[id], topWeight)})
	}
	return told
}

// slowReach is the nodes that the steps up to the next StepEmit come to from one parent: all of its first child, then all of its second one, and so on.
func slowReach(l []api.Node, steps []api.Step, group, zone, rack int) []int {
	s := steps[0]
	key := mix.Fold(uint64(group), uint64(s.Level), uint64(zone), uint64(rack))
	ids := draw.Order(key, slowChildren(l, s.Level, zone, rack))
	if len(ids) > s.N {
		ids = ids[:s.N]
	}
	var told []int
	for _, id := range ids {
		switch s.Level {
		case api.LevelZone:
			told = append(told, slowReach(l, steps[1:], group, id, 0)...)
		case api.LevelRack:
			told = append(told, slowReach(l, steps[1:], group, zone, id)...)
		case api.LevelNode:
			told = append(told, id)
		}
	}
	return told
}

// slowRun is what a rule that may be tells: it goes from each StepTake on that leads to a StepEmit, and leaves out what stood ahead, and what is too much.
func slowRun(l []api.Node, rule []api.Step, group, size int) []int {
	var all []int
	from := 0
	for i, s := range rule {
		switch s.Kind {
		case api.StepTake:
			from = i + 1
		case api.StepEmit:
			all = append(all, slowReach(l, rule[from:i], group, 0, 0)...)
		}
	}
	var told []int
	for _, id := range all {
		if !slices.Contains(told, id) {
			told = append(told, id)
		}
	}
	return told[:min(size, len(told))]
}

// TestRunKnown holds what is told against numbers that were reckoned of the chapters' words apart from the program: so the keys are those that the chapter tells.
func TestRunKnown(t *testing.T) {
	for _, c := range []struct {
		name string
		rule []api.Step
		want [8][]int
	}{
		{"the common one", place.Common(3), [8][]int{
			{31, 7, 20}, {20, 500, 8}, {8, 500, 20}, {44, 500, 11}, {11, 500, 44}, {8, 20, 11}, {999, 8, 20}, {20, 31, 8}}},
		{"nodes of the root", rule(take(), leaves(3), emit()), [8][]int{
			{500, 7, 8}, {3, 8, 44}, {3, 20, 11}, {8, 44, 11}, {11, 500, 44}, {8, 60, 11}, {31, 8, 44}, {8, 20, 3}}},
		{"nodes of a zone", rule(take(), zones(1), leaves(3), emit()), [8][]int{
			{31, 11}, {3, 20, 60}, {44, 8, 7}, {8, 7, 44}, {11, 31}, {8, 7, 44}, {500, 999}, {3, 60, 20}}},
		{"two nodes of two zones", rule(take(), zones(2), leaves(2), emit()), [8][]int{
			{31, 11, 8}, {3, 20, 500}, {44, 8, 500}, {8, 7, 500}, {11, 31, 999}, {8, 7, 20}, {500, 999, 7}, {3, 60, 31}}},
		{"racks of a zone", rule(take(), zones(1), racks(2), leaves(2), emit()), [8][]int{
			{31, 11}, {20, 3, 60}, {8, 7, 44}, {44, 7, 8}, {11, 31}, {8, 7, 44}, {999, 500}, {20, 3, 60}}},
		{"two StepEmits", rule(take(), zones(1), racks(1), leaves(1), emit(), take(), leaves(12), emit()), [8][]int{
			{31, 500, 7}, {20, 3, 8}, {8, 3, 20}, {44, 8, 11}, {11, 500, 44}, {8, 60, 11}, {999, 31, 8}, {20, 8, 3}}},
		{"all zones", rule(take(), zones(12), racks(1), leaves(1), emit()), [8][]int{
			{31, 7, 20}, {20, 500, 8}, {8, 500, 20}, {44, 500, 11}, {11, 500, 44}, {8, 20, 11}, {999, 8, 20}, {20, 31, 8}}},
	} {
		for group, want := range c.want {
			for size := 1; size <= 3; size++ {
				got, e := place.Run(town(), c.rule, group, size)
				if first := want[:min(size, len(want))]; !slices.Equal(got, first) || e != api.OK {
					t.Errorf("Run of %s, group %d, size %d: %v, %d, not %v", c.name, group, size, got, e, first)
				}
			}
		}
	}
}

func TestOfKnown(t *testing.T) {
	want := [8][]int{{31, 7, 20}, {20, 500, 8}, {8, 500, 20}, {44, 500, 11}, {11, 500, 44}, {8, 20, 11}, {999, 8, 20}, {20, 31, 8}}
	for group := range 8 {
		for size := 1; size <= 3; size++ {
			if got := place.Of(town(), group, size); !slices.Equal(got, want[group][:size]) {
				t.Errorf("Of, group %d, size %d: %v, not %v", group, size, got, want[group][:size])
			}
		}
	}
}

func TestRunAsSaid(t *testing.T) {
	c := chance(2463534242)
	full, twice := 0, 0
	for _, l := range append(drawn(30), town()) {
		rules := rightRules()
		for range 20 {
			rules = append(rules, c.rule())
		}
		for _, r := range rules {
			group, size := c.below(8), 1+c.below(3)
			want := slowRun(l, r, group, size)
			got, e := place.Run(l, r, group, size)
			if !slices.Equal(got, want) || e != api.OK {
				t.Errorf("Run(%v, %v, %d, %d): %v, %d, not %v", l, r, group, size, got, e, want)
			}
			if len(want) > 1 {
				full++
				if r[len(r)-1].Kind == api.StepEmit && slices.Index(r, emit()) < len(r)-1 {
					twice++
				}
			}
		}
	}
	if full < 1000 || twice < 100 {
		t.Errorf("%d runs told several, %d of them by two StepEmits: too few to tell", full, twice)
	}
}

func TestRunTellsWhatIsWanted(t *testing.T) {
	three := []api.Node{node(1, 1, 1, 5), node(2, 2, 1, 5), node(3, 3, 1, 5)}
	one := []api.Node{node(9, 3, 4, 1)}
	for group := range 8 {
		all, _ := place.Run(three, rule(take(), leaves(12), emit()), group, 3)
		if sorted := slices.Sorted(slices.Values(all)); !slices.Equal(sorted, []int{1, 2, 3}) {
			t.Errorf("group %d: all nodes: %v", group, all)
		}
		for size := 1; size <= 3; size++ {
			for name, r := range map[string][]api.Step{
				"more than are wanted":     rule(take(), leaves(12), emit()),
				"all, twice":               rule(take(), leaves(12), emit(), take(), leaves(12), emit()),
				"the first, then all":      rule(take(), leaves(1), emit(), take(), leaves(3), emit()),
				"the first twice, and all": rule(take(), leaves(2), emit(), take(), take(), leaves(3), emit()),
			} {
				if got, e := place.Run(three, r, group, size); !slices.Equal(got, all[:size]) || e != api.OK {
					t.Errorf("%s, group %d, size %d: %v, %d, not %v", name, group, size, got, e, all[:size])
				}
			}
			for _, r := range [][]api.Step{
				place.Common(3), rule(take(), leaves(1), emit(), take(), leaves(1), emit()),
				rule(take(), zones(12), racks(12), leaves(12), emit(), take(), leaves(12), emit()),
			} {
				if got, e := place.Run(one, r, group, size); !slices.Equal(got, []int{9}) || e != api.OK {
					t.Errorf("one node, %v, group %d, size %d: %v, %d", r, group, size, got, e)
				}
			}
			for _, r := range [][]api.Step{
				rule(take()), rule(take(), leaves(3)), rule(take(), zones(3), racks(3)), rule(take(), leaves(3), take()),
				rule(take(), zones(3), racks(3), leaves(3), take(), zones(3), racks(3), leaves(3)),
			} {
				if got, e := place.Run(three, r, group, size); len(got) > 0 || e != api.OK {
					t.Errorf("without a StepEmit: %v, group %d, size %d: %v, %d", r, group, size, got, e)
				}
			}
			early := rule(take(), leaves(1), emit(), take(), leaves(3))
			if got, e := place.Run(three, early, group, size); !slices.Equal(got, all[:1]) || e != api.OK {
				t.Errorf("the end without a StepEmit, group %d, size %d: %v, %d", group, size, got, e)
			}
		}
	}
}

func TestNobodyIsToldWhoWeighsNothing(t *testing.T) {
	for _, l := range [][]api.Node{
		nil, {}, {node(1, 1, 1, 0)}, {out(1, 1, 1, 5)}, {out(1, 1, 1, topWeight), node(2, 2, 1, 0), out(3, 3, 1, 1)},
		{out(1, 1, 1, 9), out(2, 1, 1, 9), node(3, 1, 2, 0)},
	} {
		for group := range 8 {
			for size := 1; size <= 3; size++ {
				for _, r := range rightRules() {
					if got, e := place.Run(l, r, group, size); len(got) > 0 || e != api.OK {
						t.Errorf("Run(%v, %v, %d, %d): %v, %d", l, r, group, size, got, e)
					}
				}
				if got := place.Of(l, group, size); len(got) > 0 {
					t.Errorf("Of(%v, %d, %d): %v", l, group, size, got)
				}
			}
		}
	}
	mixed := []api.Node{out(1, 1, 1, topWeight), node(2, 1, 1, 1), node(3, 1, 2, 0), out(4, 2, 1, topWeight), node(5, 3, 7, 1)}
	for group := range 8 {
		for size := 1; size <= 3; size++ {
			got := place.Of(mixed, group, size)
			if len(got) != min(size, 2) || slices.Contains(got, 1) || slices.Contains(got, 3) || slices.Contains(got, 4) {
				t.Errorf("Of(%v, %d, %d): %v", mixed, group, size, got)
			}
		}
	}
}

// TestRacksOfOneNumber: a rack is one of its zone, and draws by a key of its own.
func TestRacksOfOneNumber(t *testing.T) {
	l := []api.Node{
		node(1, 1, 1, 7), node(2, 2, 1, 7), node(3, 3, 1, 7), node(4, 1, 1, 7), node(5, 2, 1, 7), node(6, 3, 1, 7),
	}
	r := rule(take(), zones(3), racks(9), leaves(1), emit())
	alike := 0
	for group := range 8 {
		got, e := place.Run(l, r, group, 3)
		if e != api.OK || !slices.Equal(got, place.Of(l, group, 3)) || !slices.Equal(got, slowRun(l, r, group, 3)) {
			t.Errorf("group %d: %v, %d", group, got, e)
			continue
		}
		seen := []int{got[0] % 3, got[1] % 3, got[2] % 3}
		slices.Sort(seen)
		if !slices.Equal(seen, []int{0, 1, 2}) {
			t.Errorf("group %d: %v: not of three zones", group, got)
		}
		if (got[0] < 4) == (got[1] < 4) && (got[1] < 4) == (got[2] < 4) {
			alike++
		}
	}
	if alike == 8 {
		t.Error("racks of one number draw alike")
	}
}

func TestErrors(t *testing.T) {
	for _, group := range append(strange(), 8, 9) {
		for size := -1; size <= 4; size++ {
			if got, e := place.Run(town(), place.Common(3), group, size); len(got) > 0 || e != api.ErrArg {
				t.Errorf("Run of group %d, size %d: %v, %d", group, size, got, e)
			}
			if got := place.Of(town(), group, size); len(got) > 0 {
				t.Errorf("Of group %d, size %d: %v", group, size, got)
			}
		}
	}
	for _, size := range append(strange(), 0, 4, 5, 12) {
		for group := -1; group <= 8; group++ {
			if got, e := place.Run(town(), place.Common(3), group, size); len(got) > 0 || e != api.ErrArg {
				t.Errorf("Run of group %d, size %d: %v, %d", group, size, got, e)
			}
			if got := place.Of(town(), group, size); len(got) > 0 {
				t.Errorf("Of group %d, size %d: %v", group, size, got)
			}
		}
	}
	for _, l := range wrongNodes() {
		for group := range 8 {
			for size := 1; size <= 3; size++ {
				if got, e := place.Run(l, place.Common(size), group, size); len(got) > 0 || e != api.ErrArg {
					t.Errorf("Run(%v), group %d, size %d: %v, %d", l, group, size, got, e)
				}
				if got := place.Of(l, group, size); len(got) > 0 {
					t.Errorf("Of(%v), group %d, size %d: %v", l, group, size, got)
				}
			}
		}
		if _, e := place.Run(l, rule(take()), 0, 1); e != api.ErrArg {
			t.Errorf("Run(%v) of a StepTake: %d", l, e)
		}
	}
	for _, r := range wrongRules() {
		for _, l := range [][]api.Node{nil, town()} {
			if got, e := place.Run(l, r, 7, 3); len(got) > 0 || e != api.ErrArg {
				t.Errorf("Run of %v: %v, %d", r, got, e)
			}
		}
	}
}

func TestGroupsAndSizesAtTheEdge(t *testing.T) {
	for _, group := range []int{0, 7} {
		for _, size := range []int{1, 3} {
			got, e := place.Run(town(), place.Common(size), group, size)
			if len(got) != size || e != api.OK || !slices.Equal(got, place.Of(town(), group, size)) {
				t.Errorf("group %d, size %d: %v, %d", group, size, got, e)
			}
		}
	}
}

func TestOfIsRunOfTheCommonRule(t *testing.T) {
	for _, l := range slices.Concat(drawn(10), wrongNodes(), [][]api.Node{nil, town()}) {
		for group := -1; group <= 8; group++ {
			for size := -1; size <= 4; size++ {
				want, e := place.Run(l, place.Common(size), group, size)
				if got := place.Of(l, group, size); !slices.Equal(got, want) || e != api.OK && len(got) > 0 {
					t.Errorf("Of(%v, %d, %d): %v, not %v", l, group, size, got, want)
				}
			}
		}
	}
}

// TestTheoremOfZones is Pc2.
func TestTheoremOfZones(t *testing.T) {
	few, enough := 0, 0
	for _, l := range append(drawn(150), town()) {
		heavy := map[int]int{} // what a zone weighs, if that is something
		for _, n := range l {
			if n.In && n.Weight > 0 {
				heavy[n.Zone] += n.Weight
			}
		}
		for group := range 8 {
			for size := 1; size <= 3; size++ {
				got := place.Of(l, group, size)
				if want := min(size, len(heavy)); len(got) != want {
					t.Errorf("Of(%v, %d, %d): %v: not %d", l, group, size, got, want)
				}
				seen := map[int]int{}
				for _, id := range got {
					at := slices.IndexFunc(l, func(n api.Node) bool { return n.Id == id })
					if at < 0 || !l[at].In || l[at].Weight == 0 || seen[l[at].Zone] > 0 {
						t.Errorf("Of(%v, %d, %d): %v: %d", l, group, size, got, id)
						continue
					}
					seen[l[at].Zone]++
				}
				if len(heavy) < size {
					few++
				} else {
					enough++
				}
			}
		}
	}
	if few < 1000 || enough < 1000 {
		t.Errorf("%d with too few zones, %d with enough: too few to tell", few, enough)
	}
}

func TestExample(t *testing.T) {
	for group := range 8 {
		for size := 1; size <= 3; size++ {
			if len(place.Of(nil, group, size)) > 0 || len(place.Of([]api.Node{}, group, size)) > 0 {
				t.Errorf("Of no nodes, group %d, size %d", group, size)
			}
		}
	}
}

func TestUpTellsNothing(t *testing.T) {
	for _, l := range append(drawn(20), town()) {
		turned := slices.Clone(l)
		for i := range turned {
			turned[i].Up = !turned[i].Up
		}
		for group := range 8 {
			if !slices.Equal(place.Of(l, group, 3), place.Of(turned, group, 3)) {
				t.Errorf("Of(%v, %d, 3) hangs on who is up", l, group)
			}
		}
	}
}

func TestNothingHandedInIsChanged(t *testing.T) {
	lists := slices.Concat(drawn(2), wrongNodes(), [][]api.Node{town()})
	for i, r := range slices.Concat(rightRules(), wrongRules()) {
		l := lists[i%len(lists)]
		nodes := append(slices.Clone(l), node(77, 7, 7, 77), node(78, 7, 8, 78))
		steps := append(slices.Clone(r), leaves(7), emit())
		nodesWere, stepsWere := slices.Clone(nodes), slices.Clone(steps)
		place.Check(steps[:len(r)])
		place.Run(nodes[:len(l)], steps[:len(r)], i%8, 1+i%3)
		place.Run(town(), steps[:len(r)], i%8, 1+i%3)
		place.Of(nodes[:len(l)], i%8, 1+i%3)
		if !slices.Equal(nodes, nodesWere) || !slices.Equal(steps, stepsWere) {
			t.Errorf("%v, %v: changed to %v, %v", nodesWere, stepsWere, nodes, steps)
		}
	}
}

func TestAnswersAreNewMemory(t *testing.T) {
	common := place.Common(2)
	for i := range common[:cap(common)] {
		common[:cap(common)][i] = api.Step{Kind: 9, Level: 9, N: 9}
	}
	if !slices.Equal(place.Common(2), rule(take(), zones(2), racks(1), leaves(1), emit())) {
		t.Error("Common: what was answered is kept")
	}
	for group := range 8 {
		l, r := town(), place.Common(3)
		first, _ := place.Run(l, r, group, 3)
		want := slices.Clone(first)
		for i := range first[:cap(first)] {
			first[:cap(first)][i] = -1
		}
		again, _ := place.Run(l, r, group, 3)
		if !slices.Equal(again, want) || !slices.Equal(place.Of(l, group, 3), want) ||
			!slices.Equal(l, town()) || !slices.Equal(r, place.Common(3)) {
			t.Errorf("group %d: what was answered is kept", group)
		}
	}
}
