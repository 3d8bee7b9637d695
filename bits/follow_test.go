package bits_test

import (
	"fmt"
	"slices"
	"testing"

	"windrose/api"
	"windrose/bits"
)

// put are numbers, one behind the other, behind some bits.
func put(t *testing.T, x api.Bits, l []int) api.Bits {
	t.Helper()
	for _, n := range l {
		y, e := bits.Number(x, n)
		if e != api.OK || y.N != x.N+bits.Size(n) || bits.Check(y) != api.OK {
			t.Fatalf("Number(%s, %d): error %d, %s", short(x), n, e, short(y))
		}
		x = y
	}
	return x
}

// wantRead reads numbers one by one, from a bit on to the end, and asks between where the reader stands.
func wantRead(t *testing.T, x api.Bits, from int, l []int) {
	t.Helper()
	r := bits.Read(x)
	wantSeek(t, short(x), r, from, api.OK)
	at := from
	wantStand(t, "ahead", r, at, x.N-at)
	for i, n := range l {
		wantNext(t, fmt.Sprintf("%d of %d", i, len(l)), r, n, api.OK)
		at += bits.Size(n)
		wantStand(t, "between", r, at, x.N-at)
	}
	wantNext(t, "behind all", r, 0, api.ErrText)
	wantStand(t, "behind all", r, x.N, 0)
}

// TestPairsAreRead: each number behind each other one, behind whole and broken bytes.
func TestPairsAreRead(t *testing.T) {
	l := numbers()
	for i, a := range l {
		for j, b := range l {
			ahead := full((i + j) % 10)
			wantRead(t, put(t, ahead, []int{a, b}), ahead.N, []int{a, b})
		}
	}
}

func TestEachNumberIsRead(t *testing.T) {
	for n := -5000; n <= 5000; n++ {
		wantRead(t, put(t, api.Bits{}, []int{n}), 0, []int{n})
	}
	wantRead(t, put(t, api.Bits{}, numbers()), 0, numbers())
	wantRead(t, api.Bits{}, 0, nil)
}

func TestDrawnNumbersAreRead(t *testing.T) {
	c := chance(88172645463325252)
	for range 500 {
		var l []int
		for range c.below(60) {
			l = append(l, c.number())
		}
		ahead := c.bits(c.below(20))
		wantRead(t, put(t, ahead, l), ahead.N, l)
	}
}

// TestAsManyAsFitAreRead puts numbers till there is no room, and reads all of them.
func TestAsManyAsFitAreRead(t *testing.T) {
	c := chance(2463534242)
	var l []int
	x := api.Bits{}
	for {
		n := c.number()
		y, e := bits.Number(x, n)
		if e != api.OK {
			wantBits(t, "one too many", y, e, x, api.ErrFull)
			break
		}
		x, l = y, append(l, n)
	}
	if x.N < most-68 || len(l) < 1000 {
		t.Fatalf("%d bits, %d numbers", x.N, len(l))
	}
	wantRead(t, x, 0, l)
	zeros := make([]int, 300)
	wantRead(t, put(t, full(most-300), zeros), most-300, zeros)
}

// TestNumbersAndWordsAreRead: also where bits that Put puts stand between them.
func TestNumbersAndWordsAreRead(t *testing.T) {
	c := chance(88172645463325252)
	for range 300 {
		x := api.Bits{}
		var steps []func(r *bits.Reader)
		for range c.below(30) {
			if c.below(2) == 0 {
				n := c.number()
				x = put(t, x, []int{n})
				steps = append(steps, func(r *bits.Reader) { wantNext(t, "mixed", r, n, api.OK) })
				continue
			}
			n := c.below(65)
			u := c.word(n)
			x, _ = bits.Put(x, u, n)
			steps = append(steps, func(r *bits.Reader) { wantTake(t, "mixed", r, n, u, api.OK) })
		}
		r := bits.Read(x)
		for _, step := range steps {
			step(r)
		}
		wantStand(t, "behind all", r, x.N, 0)
	}
}

// TestJoinedNumbersAreRead: numbers of two rows of bits that are joined, and those of what is cut out of it again.
func TestJoinedNumbersAreRead(t *testing.T) {
	c := chance(2463534242)
	for range 300 {
		var l, m []int
		for range c.below(12) {
			l, m = append(l, c.number()), append(m, c.number())
		}
		a, b := put(t, api.Bits{}, l), put(t, api.Bits{}, m)
		x, e := bits.Join(a, b)
		if e != api.OK {
			t.Fatalf("Join: error %d", e)
		}
		wantRead(t, x, 0, slices.Concat(l, m))
		y, _ := bits.Cut(x, a.N, b.N)
		wantRead(t, y, 0, m)
	}
}
