package draw_test

import (
	"math"
	"math/big"
	"slices"
	"testing"

	"windrose/api"
	"windrose/draw"
)

const (
	topId     = 1<<31 - 1
	topWeight = 65536
	topKey    = math.MaxUint64
)

// big64 is a number's 64 bits as they are.
func big64(x uint64) *big.Int { return new(big.Int).SetUint64(x) }

// slowMix goes by the words of layer 1, with big numbers.
func slowMix(x *big.Int) *big.Int {
	whole := new(big.Int).Lsh(big.NewInt(1), 64)
	cross := func(x *big.Int) *big.Int { return new(big.Int).Xor(x, new(big.Int).Rsh(x, 32)) }
	for range 2 {
		x = cross(x)
		x.Mul(x, big64(0xD6E8FEB86659FD93)).Mod(x, whole)
	}
	return cross(x)
}

// slowCost goes by the words of the layers 1, 4 and 5, with big numbers.
func slowCost(key uint64, id int) int {
	whole := new(big.Int).Lsh(big.NewInt(1), 64)
	number := new(big.Int).Mod(big.NewInt(int64(id)), whole)
	sum := slowMix(big64(key))
	sum.Xor(sum, number).Add(sum, big64(0x9E3779B97F4A7C15)).Mod(sum, whole)
	sum = slowMix(sum)
	u, k := 1+sum.Rsh(sum, 48).Int64(), 0
	for ; u <= 32768; u *= 2 {
		k++
	}
	z, f := new(big.Int).Lsh(big.NewInt(u), 15), 0
	for range 16 {
		z.Mul(z, z).Rsh(z, 31)
		f *= 2
		if z.Cmp(big.NewInt(1<<30)) <= 0 {
			f++
			z.Lsh(z, 1)
		}
	}
	return 65536*k + f
}

// slowBetter tells whether choices with weight stand in this order: by what their costs are, divided by their weights.
func slowBetter(key uint64, a, b api.Choice) bool {
	x := big.NewRat(int64(slowCost(key, a.Id)), int64(a.Weight))
	y := big.NewRat(int64(slowCost(key, b.Id)), int64(b.Weight))
	if c := x.Cmp(y); c != 0 {
		return c < 0
	}
	return a.Id < b.Id
}

// slowOrder takes the best one out again and again, as the chapter says.
func slowOrder(key uint64, l []api.Choice) []int {
	var ids []int
	left := slices.DeleteFunc(slices.Clone(l), func(c api.Choice) bool { return c.Weight == 0 })
	for len(left) > 0 {
		at := 0
		for i := range left {
			if slowBetter(key, left[i], left[at]) {
				at = i
			}
		}
		ids = append(ids, left[at].Id)
		left = slices.Delete(left, at, at+1)
	}
	return ids
}

// choices are of Ids and weights, told by turns.
func choices(numbers ...int) []api.Choice {
	var l []api.Choice
	for i := 0; i+1 < len(numbers); i += 2 {
		l = append(l, api.Choice{Id: numbers[i], Weight: numbers[i+1]})
	}
	return l
}

// many are n choices from an Id on, of one weight.
func many(n, from, weight int) []api.Choice {
	var l []api.Choice
	for i := range n {
		l = append(l, api.Choice{Id: from + i, Weight: weight})
	}
	return l
}

// chance is a row of numbers without a pattern, the same in each run.
type chance uint64

func (c *chance) next() uint64 {
	x := uint64(*c)
	x ^= x << 13
	x ^= x >> 7
	x ^= x << 17
	*c = chance(x)
	return x
}

func (c *chance) below(n int) int { return int(c.next() >> 33 % uint64(n)) }

// weight is one that may be, the edges among them often.
func (c *chance) weight() int {
	edges := []int{0, 1, 2, topWeight - 1, topWeight}
	if at := c.below(2 * len(edges)); at < len(edges) {
		return edges[at]
	}
	return c.below(topWeight + 1)
}

// choices are n that may be, by rising Id.
func (c *chance) choices(n int) []api.Choice {
	var l []api.Choice
	id := c.below(3)
	for range n {
		l = append(l, api.Choice{Id: id, Weight: c.weight()})
		id += 1 + c.below(1<<c.below(20))
	}
	return l
}

// right are lists that may be.
func right() [][]api.Choice {
	c := chance(88172645463325252)
	l := [][]api.Choice{
		nil, {},
		choices(0, 0), choices(0, 1), choices(5, 5), choices(topId, topWeight), choices(0, topWeight), choices(topId, 0),
		choices(0, 0, 1, 0, 2, 0), choices(0, 0, 1, 1, 2, 0), choices(0, 1, 1, 0), choices(0, 0, 1, 1),
		choices(1, 5, 2, 5), choices(0, topWeight, topId, topWeight), choices(topId-1, 1, topId, 1),
		choices(0, 1, 1, topWeight, topId, 0),
		many(63, 0, 1), many(64, 0, 1), many(64, 0, 0), many(64, 0, topWeight),
		many(63, topId-62, 7), many(64, topId-63, 7),
	}
	for n := range 65 {
		l = append(l, c.choices(n), c.choices(n))
	}
	return l
}

// wrong are lists that may not be: each has one fault, at its begin, in its midst or at its end.
func wrong() [][]api.Choice {
	l := [][]api.Choice{
		many(65, 0, 1), many(65, 0, 0), many(66, 5, 1), many(1000, 0, 1), many(65, topId-64, 1),
		choices(3, 1, 3, 1), choices(3, 1, 3, 2), choices(0, 0, 0, 0), choices(topId, 1, topId, 1),
		choices(2, 1, 1, 1), choices(1, 1, 0, 1), choices(topId, 1, 0, 1),
		choices(1, 1, 2, 1, 2, 1), choices(1, 1, 1, 1, 2, 1), choices(1, 1, 3, 1, 2, 1), choices(2, 1, 1, 1, 3, 1),
		choices(1, 1, 2, 1, 1, 1),
	}
	for _, id := range []int{math.MinInt, math.MinInt32, -topId, -2, -1} {
		l = append(l, choices(id, 1), choices(id, 0), choices(id, 1, 5, 1))
	}
	for _, id := range []int{topId + 1, topId + 2, 1 << 32, 1<<32 + 1, 1 << 62, math.MaxInt} {
		l = append(l, choices(id, 1), choices(id, 0), choices(5, 1, id, 1))
	}
	for _, w := range []int{math.MinInt, math.MinInt32, -topWeight, -2, -1,
		topWeight + 1, topWeight + 2, topId, topId + 1, 1 << 32, 1<<32 + 1, 1 << 62, math.MaxInt} {
		l = append(l, choices(1, w), choices(1, w, 2, 1, 3, 1), choices(1, 1, 2, w, 3, 1), choices(1, 1, 2, 1, 3, w))
	}
	full := many(64, 0, 1)
	full[63].Id = 62
	return append(l, full)
}

func keys() []uint64 {
	return []uint64{0, 1, 2, 7, 12345, 1 << 31, 1 << 32, 1 << 63, 0x123456789ABCDEF0, topKey - 1, topKey}
}

// Ids whose costs for the key 0 are known, for ties.
const (
	freeA, freeB     = 172307, 264307 // 0
	sameA, sameB     = 13, 75612      // 11225
	twice            = 24817          // 22450
	dearA, dearB     = 4961, 107710   // 1048576, the greatest one
	oneCost, topCost = 11225, 1048576
)

func TestCheck(t *testing.T) {
	for _, l := range right() {
		if e := draw.Check(l); e != api.OK {
			t.Errorf("Check(%v): %d", l, e)
		}
	}
	for _, l := range wrong() {
		if e := draw.Check(l); e != api.ErrArg {
			t.Errorf("Check(%v): %d, not %d", l, e, api.ErrArg)
		}
	}
}

func TestCostKnown(t *testing.T) {
	for _, c := range []struct {
		key      uint64
		id, want int
	}{
		{0, math.MinInt, 45920}, {0, -1, 3235}, {0, 0, 112254}, {0, 1, 84446}, {0, 2, 231199},
		{0, topId, 5880}, {0, topId + 1, 109165}, {0, 1 << 32, 77907}, {0, math.MaxInt, 135013},
		{1, math.MinInt, 206772}, {1, -1, 28784}, {1, 0, 7530}, {1, 5, 46737},
		{7, 1, 29977}, {7, 2, 27995}, {7, 5, 605887}, {7, topId, 75961}, {7, topId + 1, 66764},
		{0x123456789ABCDEF0, 2, 349554}, {0x123456789ABCDEF0, topId, 1756},
		{1 << 63, math.MinInt, 3540}, {1 << 63, 0, 12704}, {1 << 63, topId + 1, 945},
		{topKey, math.MinInt, 349845}, {topKey, -1, 71875}, {topKey, 0, 90076}, {topKey, 1, 11104},
		{topKey, topId, 157665}, {topKey, 1 << 32, 134348}, {topKey, math.MaxInt, 2952},
		{0, freeA, 0}, {0, freeB, 0}, {0, sameA, oneCost}, {0, sameB, oneCost}, {0, twice, 2 * oneCost},
		{0, dearA, topCost}, {0, dearB, topCost},
	} {
		if got := draw.Cost(c.key, c.id); got != c.want {
			t.Errorf("Cost(%d, %d): %d, not %d", c.key, c.id, got, c.want)
		}
	}
}

func TestCostAsSaid(t *testing.T) {
	ids := []int{math.MinInt, math.MinInt + 1, math.MinInt32, -65536, -2, -1, 0, 1, 2, 63, 64, 65535, 65536,
		topId - 1, topId, topId + 1, 1<<32 - 1, 1 << 32, 1 << 48, 1 << 62, math.MaxInt - 1, math.MaxInt}
	for _, key := range keys() {
		for _, id := range ids {
			if got, want := draw.Cost(key, id), slowCost(key, id); got != want {
				t.Errorf("Cost(%d, %d): %d, not %d", key, id, got, want)
			}
		}
	}
	c := chance(2463534242)
	for range 5000 {
		key, id := c.next(), int(c.next())
		if got, want := draw.Cost(key, id), slowCost(key, id); got != want {
			t.Errorf("Cost(%d, %d): %d, not %d", key, id, got, want)
		}
	}
}

func TestOrderExample(t *testing.T) {
	for _, key := range keys() {
		for _, c := range []api.Choice{{Id: 0, Weight: 1}, {Id: 5, Weight: 7}, {Id: topId, Weight: topWeight}} {
			if got := draw.Order(key, []api.Choice{c}); !slices.Equal(got, []int{c.Id}) {
				t.Errorf("Order(%d) of %v: %v", key, c, got)
			}
		}
	}
}

func TestOrderKnown(t *testing.T) {
	for _, c := range []struct {
		key  uint64
		l    []api.Choice
		want []int
	}{
		{7, choices(1, 5, 2, 5), []int{2, 1}},
		{0, many(8, 0, 1), []int{7, 6, 5, 1, 4, 0, 2, 3}},
		{7, choices(0, 0, 1, 1, 2, 2, 3, 3, 4, 4, 5, 5, 6, 6, 7, 7), []int{2, 6, 4, 1, 7, 3, 5}},
		{topKey, choices(0, 65536, 3, 1, 9, 0, 1000, 30000, topId, 65536), []int{1000, 0, topId, 3}},
		{12345, choices(0, 0, 3, 7919, 6, 15838, 9, 23757, 12, 31676, 15, 39595, 18, 47514, 21, 55433, 24, 63352, 27, 5734),
			[]int{15, 18, 24, 3, 21, 12, 6, 9, 27}},
	} {
		if got := draw.Order(c.key, c.l); !slices.Equal(got, c.want) {
			t.Errorf("Order(%d, %v): %v, not %v", c.key, c.l, got, c.want)
		}
		if got, ok := draw.Best(c.key, c.l); !ok || got != c.want[0] {
			t.Errorf("Best(%d, %v): %d, %v, not %d", c.key, c.l, got, ok, c.want[0])
		}
	}
}

func TestBestAndOrderAsSaid(t *testing.T) {
	for _, l := range right() {
		for _, key := range []uint64{0, 7, topKey} {
			want := slowOrder(key, l)
			if got := draw.Order(key, l); !slices.Equal(got, want) {
				t.Errorf("Order(%d, %v): %v, not %v", key, l, got, want)
			}
			first := 0
			if len(want) > 0 {
				first = want[0]
			}
			if got, ok := draw.Best(key, l); got != first || ok != (len(want) > 0) {
				t.Errorf("Best(%d, %v): %d, %v, not of %v", key, l, got, ok, want)
			}
		}
	}
}

// Of the costs of the key 0: where none is better the one with the less Id is, and by one more or less of a weight that turns.
func TestTies(t *testing.T) {
	for _, c := range []struct {
		l    []api.Choice
		want []int
	}{
		{choices(sameA, 1, sameB, 1), []int{sameA, sameB}},
		{choices(sameA, topWeight, sameB, topWeight), []int{sameA, sameB}},
		{choices(sameA, topWeight-1, sameB, topWeight), []int{sameB, sameA}},
		{choices(sameA, topWeight, sameB, topWeight-1), []int{sameA, sameB}},
		{choices(sameA, 0, sameB, 1), []int{sameB}},
		{choices(sameA, 1, sameB, 0), []int{sameA}},
		{choices(sameA, 1, twice, 2), []int{sameA, twice}},
		{choices(sameA, topWeight/2, twice, topWeight), []int{sameA, twice}},
		{choices(sameA, topWeight/2-1, twice, topWeight), []int{twice, sameA}},
		{choices(twice, 2, sameB, 1), []int{twice, sameB}},
		{choices(twice, topWeight, sameB, topWeight/2), []int{twice, sameB}},
		{choices(twice, topWeight-1, sameB, topWeight/2), []int{sameB, twice}},
		{choices(sameA, 3, twice, 6, sameB, 3), []int{sameA, twice, sameB}},
		{choices(freeA, 1, freeB, 1), []int{freeA, freeB}},
		{choices(freeA, 1, freeB, topWeight), []int{freeA, freeB}},
		{choices(freeA, topWeight, freeB, 1), []int{freeA, freeB}},
		{choices(freeA, 0, freeB, 1), []int{freeB}},
		{choices(sameA, topWeight, freeA, 1), []int{freeA, sameA}},
		{choices(dearA, 1, dearB, 1), []int{dearA, dearB}},
		{choices(dearA, 1, dearB, 2), []int{dearB, dearA}},
		{choices(dearA, topWeight, freeA, 1), []int{freeA, dearA}},
		{choices(sameA, 1, dearA, topWeight), []int{dearA, sameA}},
		{choices(sameA, 2, dearA, 1, twice, 4, sameB, 2, dearB, 1, freeA, 1, freeB, 9),
			[]int{freeA, freeB, sameA, twice, sameB, dearA, dearB}},
	} {
		if got := draw.Order(0, c.l); !slices.Equal(got, c.want) {
			t.Errorf("Order(0, %v): %v, not %v", c.l, got, c.want)
		}
		if got, ok := draw.Best(0, c.l); !ok || got != c.want[0] {
			t.Errorf("Best(0, %v): %d, %v, not %d", c.l, got, ok, c.want[0])
		}
	}
}

func TestNobodyIsDrawn(t *testing.T) {
	without := [][]api.Choice{nil, {}, choices(0, 0), choices(5, 0), choices(topId, 0), choices(0, 0, topId, 0), many(64, 9, 0)}
	for _, l := range append(without, wrong()...) {
		for _, key := range keys() {
			if got, ok := draw.Best(key, l); got != 0 || ok {
				t.Errorf("Best(%d, %v): %d, %v", key, l, got, ok)
			}
			if got := draw.Order(key, l); len(got) > 0 {
				t.Errorf("Order(%d, %v): %v", key, l, got)
			}
		}
	}
}

func TestOneAloneHasWeight(t *testing.T) {
	for i := range 64 {
		l := many(64, topId-63, 0)
		l[i].Weight = 1
		for _, key := range keys() {
			if got, ok := draw.Best(key, l); got != l[i].Id || !ok {
				t.Errorf("Best(%d): %d, %v, not %d", key, got, ok, l[i].Id)
			}
			if got := draw.Order(key, l); !slices.Equal(got, []int{l[i].Id}) {
				t.Errorf("Order(%d): %v, not %d alone", key, got, l[i].Id)
			}
		}
	}
}

func TestShareKnown(t *testing.T) {
	for _, c := range []struct {
		l             []api.Choice
		id, want, all int
	}{
		{choices(1, 5, 2, 7), 1, 5, 12},
		{choices(1, 5, 2, 7), 2, 7, 12},
		{choices(1, 5, 2, 7), 0, 0, 0},
		{choices(1, 5, 2, 7), 3, 0, 0},
		{choices(1, 5, 2, 7), -1, 0, 0},
		{choices(1, 5, 2, 7), 1<<32 + 1, 0, 0},
		{choices(1, 5, 2, 7), math.MinInt, 0, 0},
		{choices(1, 5, 2, 7), math.MaxInt, 0, 0},
		{choices(0, 3), 0, 3, 3},
		{choices(0, 0), 0, 0, 0},
		{choices(0, 0, 1, 4), 0, 0, 4},
		{choices(0, 0, 1, 4), 1, 4, 4},
		{choices(0, 4, 1, 0, 2, 5), 1, 0, 9},
		{choices(topId, topWeight), topId, topWeight, topWeight},
		{choices(topId, topWeight), topId + 1, 0, 0},
		{many(64, 0, topWeight), 63, topWeight, 64 * topWeight},
		{many(64, 0, topWeight), 64, 0, 0},
		{nil, 0, 0, 0},
		{[]api.Choice{}, 0, 0, 0},
	} {
		if got, all := draw.Share(c.l, c.id); got != c.want || all != c.all {
			t.Errorf("Share(%v, %d): %d, %d, not %d, %d", c.l, c.id, got, all, c.want, c.all)
		}
	}
}

// slowShare goes by the chapter's words, of choices that may be.
func slowShare(l []api.Choice, id int) (int, int) {
	at := slices.IndexFunc(l, func(c api.Choice) bool { return c.Id == id })
	if at < 0 {
		return 0, 0
	}
	all := 0
	for _, c := range l {
		all += c.Weight
	}
	return l[at].Weight, all
}

func TestShareAsSaid(t *testing.T) {
	for _, l := range right() {
		ids := []int{math.MinInt, -1, 0, topId, topId + 1, math.MaxInt}
		for _, c := range l {
			ids = append(ids, c.Id-1, c.Id, c.Id+1)
		}
		for _, id := range ids {
			got, all := draw.Share(l, id)
			if want, whole := slowShare(l, id); got != want || all != whole {
				t.Errorf("Share(%v, %d): %d, %d, not %d, %d", l, id, got, all, want, whole)
			}
		}
	}
}

func TestShareOfWrongLists(t *testing.T) {
	for _, l := range wrong() {
		for _, c := range l {
			if got, all := draw.Share(l, c.Id); got != 0 || all != 0 {
				t.Errorf("Share(%v, %d): %d, %d", l, c.Id, got, all)
			}
		}
	}
}

// drawn calls a test for many lists that may be, with a key, and who is drawn of it (-1: nobody).
func drawn(test func(c *chance, key uint64, l []api.Choice, best int)) {
	c := chance(362436069362436069)
	for range 3000 {
		key, l := c.next(), c.choices(1+c.below(64))
		best, ok := draw.Best(key, l)
		if !ok {
			best = -1
		}
		test(&c, key, l, best)
	}
}

// holds tells that who is drawn is one of some (-1: nobody).
func holds(t *testing.T, what string, key uint64, l []api.Choice, may ...int) {
	t.Helper()
	got, ok := draw.Best(key, l)
	if !ok {
		got = -1
	}
	if !slices.Contains(may, got) {
		t.Errorf("%s: Best(%d, %v): %d, not of %v", what, key, l, got, may)
	}
}

func TestTakenAway(t *testing.T) {
	drawn(func(c *chance, key uint64, l []api.Choice, best int) {
		for i := range l {
			if l[i].Id != best {
				holds(t, "taken away", key, slices.Delete(slices.Clone(l), i, i+1), best)
			}
		}
	})
}

func TestLighter(t *testing.T) {
	drawn(func(c *chance, key uint64, l []api.Choice, best int) {
		for i := range l {
			if l[i].Id == best || l[i].Weight == 0 {
				continue
			}
			for _, w := range []int{0, l[i].Weight - 1, c.below(l[i].Weight)} {
				less := slices.Clone(l)
				less[i].Weight = w
				holds(t, "lighter", key, less, best)
			}
		}
	})
}

func TestHeavier(t *testing.T) {
	turned := 0
	drawn(func(c *chance, key uint64, l []api.Choice, best int) {
		for i := range l {
			if l[i].Weight == topWeight {
				continue
			}
			for _, w := range []int{l[i].Weight + 1, topWeight, l[i].Weight + 1 + c.below(topWeight-l[i].Weight)} {
				more := slices.Clone(l)
				more[i].Weight = w
				holds(t, "heavier", key, more, best, l[i].Id)
				if got, _ := draw.Best(key, more); got != best {
					turned++
				}
			}
		}
	})
	if turned == 0 {
		t.Error("no one that weighs more was ever drawn")
	}
}

func TestThereAnew(t *testing.T) {
	turned := 0
	drawn(func(c *chance, key uint64, l []api.Choice, best int) {
		if len(l) == 64 {
			return
		}
		for at := range len(l) + 1 {
			id := topId
			if at < len(l) {
				id = l[at].Id - 1
			}
			if id < 0 || at > 0 && id <= l[at-1].Id {
				continue
			}
			weight := c.weight()
			more := slices.Insert(slices.Clone(l), at, api.Choice{Id: id, Weight: weight})
			may := []int{best}
			if weight > 0 {
				may = append(may, id)
			}
			holds(t, "there anew", key, more, may...)
			if got, ok := draw.Best(key, more); ok && got != best {
				turned++
			}
		}
	})
	if turned == 0 {
		t.Error("no one that is there anew was ever drawn")
	}
}

// One with three times the weight is drawn about three times as often.
func TestDrawnByWeights(t *testing.T) {
	const draws = 40000
	l := choices(1, 10000, 2, 30000)
	heavy := 0
	for key := range uint64(draws) {
		if got, _ := draw.Best(key, l); got == 2 {
			heavy++
		}
	}
	if own, all := draw.Share(l, 2); math.Abs(float64(heavy)/draws-float64(own)/float64(all)) > 0.01 {
		t.Errorf("%d of %d draws with the share %d of %d", heavy, draws, own, all)
	}
}

func TestListsAreNotChanged(t *testing.T) {
	spare := choices(9, 9, -1, -1, topId, topWeight)
	for _, l := range append(right(), wrong()...) {
		room := append(slices.Clone(l), spare...)
		given := room[:len(l)]
		before := slices.Clone(room)
		draw.Check(given)
		draw.Best(7, given)
		draw.Order(7, given)
		for _, c := range given {
			draw.Share(given, c.Id)
		}
		if !slices.Equal(room, before) {
			t.Errorf("%v became %v", before, room)
		}
	}
}

// An answer is new memory: what is done to one, and to its spare room, no other one tells.
func TestAnswersShareNothing(t *testing.T) {
	l := many(9, 0, 1)
	first := draw.Order(0, l)
	second := draw.Order(0, l)
	want := slices.Clone(second)
	whole := first[:cap(first)]
	for i := range whole {
		whole[i] = -5
	}
	if !slices.Equal(second, want) || !slices.Equal(draw.Order(0, l), want) || !slices.Equal(l, many(9, 0, 1)) {
		t.Error("an answer shares its memory")
	}
}
