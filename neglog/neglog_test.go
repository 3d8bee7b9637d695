package neglog_test

import (
	"math"
	"math/big"
	"testing"

	"windrose/neglog"
)

const (
	one   = 65536
	top   = 16 * one
	count = 1<<31 - 1
)

// power is 2^n.
func power(n uint) *big.Int { return new(big.Int).Lsh(big.NewInt(1), n) }

// slowCost goes by the chapter's words, with big numbers, of a u from 1 to 65536.
func slowCost(u int) int {
	n, k := big.NewInt(int64(u)), int64(0)
	for n.Cmp(big.NewInt(32768)) <= 0 {
		n.Add(n, n)
		k++
	}
	z, f := n.Mul(n, power(15)), int64(0)
	for range 16 {
		z.Quo(z.Mul(z, z), power(31))
		if z.Cmp(power(30)) <= 0 {
			f = 2*f + 1
			z.Add(z, z)
		} else {
			f = 2 * f
		}
	}
	return int(65536*k + f)
}

// slowCosts are those of all numbers, each at its own place; at 0 stands none.
func slowCosts() []int {
	l := make([]int, one+1)
	for u := 1; u <= one; u++ {
		l[u] = slowCost(u)
	}
	return l
}

// slowBetter goes by the chapter's words, with big numbers.
func slowBetter(cost, weight, other, than int) bool {
	for _, n := range []int{cost, weight, other, than} {
		if n < 0 || n > count {
			return false
		}
	}
	if weight == 0 || than == 0 {
		return false
	}
	return times(cost, than).Cmp(times(other, weight)) < 0
}

func times(a, b int) *big.Int {
	return new(big.Int).Mul(big.NewInt(int64(a)), big.NewInt(int64(b)))
}

// wrong are numbers that neither a cost nor a weight may be.
func wrong() []int {
	return []int{math.MinInt, math.MinInt + 1, math.MinInt32, -one, -2, -1,
		count + 1, count + 2, 1<<32 - 1, 1 << 32, 1<<32 + 1, 1 << 62, math.MaxInt - 1, math.MaxInt}
}

// right are numbers that a cost may be, and, but 0, a weight.
func right() []int {
	return []int{0, 1, 2, 3, 7, 32767, one - 1, one, one + 1, 3 * one, top - 1, top, 46340, 46341,
		1 << 30, 1<<30 + 1, count/3 + 1, count - 1, count}
}

func TestCostExample(t *testing.T) {
	if got := neglog.Cost(32768); got != 65536 {
		t.Errorf("Cost(32768): %d, not 65536", got)
	}
}

func TestCostKnown(t *testing.T) {
	for _, c := range []struct{ u, want int }{
		{1, 1048576}, {2, 983040}, {3, 944703}, {5, 896406}, {7, 864593}, {10, 830870},
		{100, 613164}, {255, 524658}, {256, 524288}, {257, 523919}, {1000, 395458}, {4095, 262167},
		{16384, 131072}, {16385, 131066}, {32767, 65538}, {32768, 65536}, {32769, 65533}, {40000, 46680},
		{46340, 32769}, {46341, 32767}, {46342, 32765}, {50000, 25582}, {65534, 2}, {65535, 1}, {65536, 0},
	} {
		if got := neglog.Cost(c.u); got != c.want {
			t.Errorf("Cost(%d): %d, not %d", c.u, got, c.want)
		}
	}
}

func TestCostAsSaid(t *testing.T) {
	for u, want := range slowCosts() {
		if got := neglog.Cost(u); u > 0 && got != want {
			t.Errorf("Cost(%d): %d, not %d", u, got, want)
		}
	}
}

// What falls behind points takes away less than 1, and adds far less.
func TestCostIsAboutTheLogarithm(t *testing.T) {
	for u := 1; u <= one; u++ {
		exact := one * math.Log2(one/float64(u))
		if over := float64(neglog.Cost(u)) - exact; over <= -1 || over > 0.001 {
			t.Errorf("Cost(%d): %d, not about %f", u, neglog.Cost(u), exact)
		}
	}
}

func TestCostOfWrongNumbers(t *testing.T) {
	l := []int{0, one + 1, one + 2, 2*one - 1, 2 * one, 1<<31 - 1}
	for _, u := range append(l, wrong()...) {
		if got := neglog.Cost(u); got != 0 {
			t.Errorf("Cost(%d): %d, not 0", u, got)
		}
	}
}

func TestCostsNeverGrow(t *testing.T) {
	for u := 1; u < one; u++ {
		if here, next := neglog.Cost(u), neglog.Cost(u+1); next > here {
			t.Errorf("Cost(%d): %d, and of one more: %d", u, here, next)
		}
	}
}

func TestTwiceCostsOneLess(t *testing.T) {
	for u := 1; u <= one/2; u++ {
		if here, twice := neglog.Cost(u), neglog.Cost(2*u); twice != here-one {
			t.Errorf("Cost(%d): %d, and of twice that: %d", u, here, twice)
		}
	}
}

func TestCostOfTheEnds(t *testing.T) {
	if got := neglog.Cost(65536); got != 0 {
		t.Errorf("Cost(65536): %d, not 0", got)
	}
	if got := neglog.Cost(1); got != 16*65536 {
		t.Errorf("Cost(1): %d, not %d", got, 16*65536)
	}
}

func TestBetterKnown(t *testing.T) {
	for _, c := range []struct {
		cost, weight, other, than int
		want                      bool
	}{
		{1, 2, 1, 1, true},
		{1, 1, 1, 2, false},
		{5, 1, 3, 1, false},
		{3, 1, 5, 1, true},
		{3, 1, 3, 1, false},
		{2, 2, 3, 3, false},
		{7, 2, 11, 3, true},
		{11, 3, 7, 2, false},
		{0, 1, 0, 1, false},
		{0, 1, 0, count, false},
		{0, count, 0, 1, false},
		{0, 1, 1, 1, true},
		{0, 1, 1, count, true},
		{1, count, 0, 1, false},
		{count, 1, count, 1, false},
		{count, 2, count, 1, true},
		{count, count, count, count, false},
		{count - 1, count, count, count, true},
		{count, count, count - 1, count, false},
		{count, count, count, count - 1, true},
		{count - 1, count - 1, count, count, false},
		{count - 2, count - 1, count - 1, count, true},
		{count - 1, count, count - 2, count - 1, false},
		{count, 1, 1, count, false},
		{1, count, count, 1, true},
	} {
		if got := neglog.Better(c.cost, c.weight, c.other, c.than); got != c.want {
			t.Errorf("Better(%d, %d, %d, %d): %v", c.cost, c.weight, c.other, c.than, got)
		}
	}
}

func TestBetterAsSaid(t *testing.T) {
	l := append(right(), wrong()...)
	for _, cost := range l {
		for _, weight := range l {
			for _, other := range l {
				for _, than := range l {
					got := neglog.Better(cost, weight, other, than)
					if got != slowBetter(cost, weight, other, than) {
						t.Fatalf("Better(%d, %d, %d, %d): %v", cost, weight, other, than, got)
					}
				}
			}
		}
	}
}

// With a right number at its place each of these calls would be true.
func TestBetterOfWrongNumbers(t *testing.T) {
	for _, n := range wrong() {
		if neglog.Better(n, 1, 1, 1) || neglog.Better(n, count, count, 1) {
			t.Errorf("Better of the cost %d", n)
		}
		if neglog.Better(0, n, 1, 1) || neglog.Better(0, n, count, 1) {
			t.Errorf("Better of the weight %d", n)
		}
		if neglog.Better(0, 1, n, 1) || neglog.Better(0, count, n, 1) {
			t.Errorf("Better than the cost %d", n)
		}
		if neglog.Better(0, 1, 1, n) || neglog.Better(0, count, count, n) {
			t.Errorf("Better than the weight %d", n)
		}
	}
}

func TestBetterWithoutWeight(t *testing.T) {
	for _, cost := range right() {
		for _, other := range right() {
			for _, weight := range right() {
				if neglog.Better(cost, 0, other, weight) {
					t.Errorf("Better(%d, 0, %d, %d)", cost, other, weight)
				}
				if neglog.Better(cost, weight, other, 0) {
					t.Errorf("Better(%d, %d, %d, 0)", cost, weight, other)
				}
			}
		}
	}
}

func TestFloorKnown(t *testing.T) {
	for _, c := range []struct{ cost, want int }{
		{0, 65536}, {1, 65535}, {2, 65534}, {3, 65534}, {4, 65533}, {100, 65467}, {1000, 64846},
		{32767, 46341}, {32768, 46341}, {32769, 46340},
		{65535, 32769}, {65536, 32768}, {65537, 32768},
		{131071, 16385}, {131072, 16384}, {131073, 16384}, {500000, 331},
		{983039, 3}, {983040, 2}, {983041, 2}, {1048575, 2}, {1048576, 1}, {1048577, 1},
	} {
		if got := neglog.Floor(c.cost); got != c.want {
			t.Errorf("Floor(%d): %d, not %d", c.cost, got, c.want)
		}
	}
}

// Of each cost that is met, one less and one more, the least number is found by going down from the greatest one.
func TestFloorAsSaid(t *testing.T) {
	costs := slowCosts()
	for u := one; u >= 1; u-- {
		for _, cost := range []int{costs[u] - 1, costs[u], costs[u] + 1} {
			if cost < 0 {
				continue
			}
			want := min(u+1, one)
			for want > 1 && costs[want-1] <= cost {
				want--
			}
			if got := neglog.Floor(cost); got != want {
				t.Errorf("Floor(%d): %d, not %d", cost, got, want)
			}
		}
	}
}

func TestFloorBelowNought(t *testing.T) {
	for _, cost := range []int{-1, -2, -one, -top, math.MinInt32, math.MinInt32 - 1, math.MinInt + 1, math.MinInt} {
		if got := neglog.Floor(cost); got != 65536 {
			t.Errorf("Floor(%d): %d, not 65536", cost, got)
		}
	}
}

func TestFloorOfTheGreatest(t *testing.T) {
	for _, cost := range []int{top, top + 1, 2 * top, count, count + 1, 1 << 32, 1 << 62, math.MaxInt - 1, math.MaxInt} {
		if got := neglog.Floor(cost); got != 1 {
			t.Errorf("Floor(%d): %d, not 1", cost, got)
		}
	}
	if got := neglog.Floor(top - 1); got != 2 {
		t.Errorf("Floor(%d): %d, not 2", top-1, got)
	}
}
