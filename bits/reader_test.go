package bits_test

import (
	"fmt"
	"math"
	"math/big"
	"slices"
	"strings"
	"testing"

	"windrose/api"
	"windrose/bits"
)

func TestReader(t *testing.T) {
	r := bits.Read(of("10110010 11110000 01"))
	wantStand(t, "at first", r, 0, 18)
	wantTake(t, "at first", r, 3, 5, api.OK)
	wantStand(t, "behind 3", r, 3, 15)
	wantTake(t, "behind 3", r, 0, 0, api.OK)
	wantStand(t, "behind none", r, 3, 15)
	wantTake(t, "behind 3", r, 9, 0x12F, api.OK)
	wantStand(t, "behind 12", r, 12, 6)
	wantTake(t, "one more than there are", r, 7, 0, api.ErrText)
	wantTake(t, "many more", r, 64, 0, api.ErrText)
	wantTake(t, "too many", r, 65, 0, api.ErrArg)
	wantTake(t, "below none", r, -1, 0, api.ErrArg)
	wantStand(t, "it stays", r, 12, 6)
	wantTake(t, "as many as there are", r, 6, 1, api.OK)
	wantStand(t, "behind all", r, 18, 0)
	wantTake(t, "behind all", r, 0, 0, api.OK)
	wantTake(t, "behind all", r, 1, 0, api.ErrText)
	wantNext(t, "behind all", r, 0, api.ErrText)
	wantStand(t, "behind all", r, 18, 0)
	wantSeek(t, "back", r, 8, api.OK)
	wantStand(t, "back", r, 8, 10)
	wantTake(t, "back", r, 4, 15, api.OK)
	wantSeek(t, "to the first one", r, 0, api.OK)
	wantStand(t, "to the first one", r, 0, 18)
	wantTake(t, "again", r, 18, 0x2CBC1, api.OK)
}

func TestSeek(t *testing.T) {
	for _, x := range rights() {
		r := bits.Read(x)
		for _, at := range []int{x.N, 0, x.N / 2, x.N, max(0, x.N-1), min(1, x.N), 0} {
			wantSeek(t, short(x), r, at, api.OK)
			wantStand(t, short(x), r, at, x.N-at)
			for _, no := range append(edges(), x.N+1, x.N+2, -x.N-1, 1<<32+at, 1<<18+at, math.MinInt+at) {
				if no >= 0 && no <= x.N {
					continue
				}
				wantSeek(t, short(x), r, no, api.ErrArg)
				wantStand(t, "it stays", r, at, x.N-at)
			}
		}
	}
	x := of("10110010 111")
	r := bits.Read(x)
	for at := range x.N + 1 {
		wantSeek(t, "each", r, at, api.OK)
		wantStand(t, "each", r, at, x.N-at)
	}
}

// TestTakeOfAllPlaces: from each place so many as may be asked for, and more; where it is refused the reader stays.
func TestTakeOfAllPlaces(t *testing.T) {
	for _, x := range small() {
		r, s := bits.Read(x), text(x)
		for at := range x.N + 1 {
			left := x.N - at
			for _, n := range append(edges(), 0, 1, 2, 7, 8, 9, 63, 64, 65, 66, left-1, left, left+1) {
				wantSeek(t, short(x), r, at, api.OK)
				what := fmt.Sprintf("%s at %d", short(x), at)
				switch {
				case n < 0 || n > 64:
					wantTake(t, what, r, n, 0, api.ErrArg)
					wantStand(t, what, r, at, left)
				case n > left:
					wantTake(t, what, r, n, 0, api.ErrText)
					wantStand(t, what, r, at, left)
				default:
					wantTake(t, what, r, n, value(s[at:at+n]), api.OK)
					wantStand(t, what, r, at+n, left-n)
				}
			}
		}
	}
}

// TestTakeIsGet: from each place it tells what Get does.
func TestTakeIsGet(t *testing.T) {
	c := chance(2463534242)
	for _, many := range []int{90, most} {
		x := c.bits(many)
		r := bits.Read(x)
		for range 2000 {
			at := one(&c, 0, x.N, x.N-1, x.N-64, c.below(x.N+1))
			n := c.below(min(64, x.N-at) + 1)
			must, _ := bits.Get(x, at, n)
			r.Seek(at)
			wantTake(t, short(x), r, n, must, api.OK)
			wantStand(t, short(x), r, at+n, x.N-at-n)
		}
	}
}

// TestReaderOfBitsThatMayNotBe: it has no bits.
func TestReaderOfBitsThatMayNotBe(t *testing.T) {
	for _, x := range wrongs() {
		r := bits.Read(x)
		if r == nil {
			t.Fatalf("Read(%s): none", short(x))
		}
		wantNoBits(t, short(x), r)
		wantSeek(t, short(x), r, 0, api.OK)
		wantNoBits(t, short(x), r)
	}
}

// wantNoBits asks for what a reader of no bits tells, but for Seek to 0.
func wantNoBits(t *testing.T, what string, r *bits.Reader) {
	t.Helper()
	for range 2 {
		wantStand(t, what, r, 0, 0)
		wantTake(t, what, r, 0, 0, api.OK)
		for _, n := range []int{1, 2, 8, 63, 64} {
			wantTake(t, what, r, n, 0, api.ErrText)
		}
		for _, n := range append(edges(), 65, 66) {
			wantTake(t, what, r, n, 0, api.ErrArg)
			wantSeek(t, what, r, n, api.ErrArg)
		}
		wantSeek(t, what, r, 1, api.ErrArg)
		wantSeek(t, what, r, 8, api.ErrArg)
		wantNext(t, what, r, 0, api.ErrText)
		wantStand(t, what, r, 0, 0)
	}
}

// TestNobodysReader is the bracket: a reader that Read did not give.
func TestNobodysReader(t *testing.T) {
	var zero bits.Reader
	for name, r := range map[string]*bits.Reader{"the zero one": &zero, "a new one": new(bits.Reader), "a literal": {}} {
		wantNoBits(t, name, r)
		wantSeek(t, name, r, 0, api.OK)
		wantNoBits(t, name, r)
	}
	var none *bits.Reader
	wantNoBits(t, "nil", none)
	wantSeek(t, "nil", none, 0, api.ErrArg)
	wantNoBits(t, "nil", none)
}

// TestNumberOfNothing: no bits, and as many as there are passed.
func TestNumberOfNothing(t *testing.T) {
	wantNoBits(t, "none", bits.Read(api.Bits{}))
	wantSeek(t, "none", bits.Read(api.Bits{}), 0, api.OK)
	for _, x := range small() {
		r := bits.Read(x)
		r.Seek(x.N)
		wantNext(t, short(x), r, 0, api.ErrText)
		wantStand(t, short(x), r, x.N, 0)
	}
}

// aheads are bits ahead of a number, so that it begins at any bit of a byte.
func aheads() []string {
	return []string{"", "1", "00", "111", "0101", "11111", "000000", "1010101", "11111111", "00000000 1"}
}

// TestNumberThatIsBrokenOff: each number's bits, cut at each place; the noughts that stand in the last byte behind them count for nothing.
func TestNumberThatIsBrokenOff(t *testing.T) {
	for _, n := range numbers() {
		s := slowSigns(n)
		for _, ahead := range aheads() {
			ahead = strings.ReplaceAll(ahead, " ", "")
			for size := range len(s) {
				r := bits.Read(of(ahead + s[:size]))
				r.Seek(len(ahead))
				wantNext(t, fmt.Sprintf("%s|%s of %d", ahead, s[:size], n), r, 0, api.ErrText)
				wantStand(t, "it stays", r, len(ahead), size)
			}
			r := bits.Read(of(ahead + s))
			r.Seek(len(ahead))
			wantNext(t, ahead+"|"+s, r, n, api.OK)
			wantStand(t, "behind it", r, len(ahead)+len(s), 0)
		}
	}
}

// TestNumberOfAGreaterClass: each number in each class, but its least one.
func TestNumberOfAGreaterClass(t *testing.T) {
	refused := map[int]int{}
	for _, n := range numbers() {
		for class := slowClass(n) + 1; class < 5; class++ {
			s := slowOfClass(class, slowU(n))
			for _, ahead := range aheads() {
				ahead = strings.ReplaceAll(ahead, " ", "")
				r := bits.Read(of(ahead + s + "0"))
				r.Seek(len(ahead))
				wantNext(t, fmt.Sprintf("%d in class %d", n, class), r, 0, api.ErrText)
				wantStand(t, "it stays", r, len(ahead), len(s)+1)
				wantTake(t, "its first bits", r, len(heads()[class]), value(heads()[class]), api.OK)
			}
			refused[class]++
		}
	}
	for class := 1; class < 5; class++ {
		if refused[class] < class {
			t.Errorf("%d numbers of class %d: too few to tell", refused[class], class)
		}
	}
}

// TestNumberAtTheEdgesOfU: in each class the least u that it may have is read, and the one below it is not.
func TestNumberAtTheEdgesOfU(t *testing.T) {
	least := []uint64{0, 1, 128, 4096, 1 << 20}
	n := []int{0, -1, 64, 2048, 524288}
	for class := 1; class < 5; class++ {
		u := new(big.Int).SetUint64(least[class])
		r := bits.Read(of(slowOfClass(class, u)))
		wantNext(t, "the least u", r, n[class], api.OK)
		u.Sub(u, big.NewInt(1))
		r = bits.Read(of(slowOfClass(class, u)))
		wantNext(t, "one less", r, 0, api.ErrText)
		wantStand(t, "it stays", r, 0, len(heads()[class])+widths()[class])
	}
}

// TestNumberOfAllBits reads a number of each row of up to 15 bits, and holds it against the slow reckoning.
func TestNumberOfAllBits(t *testing.T) {
	for size := range 16 {
		for u := range 1 << size {
			s, _ := digits(big.NewInt(int64(u)), size)
			r, slow := bits.Read(of(s)), slowRead(of(s))
			must, f := slow.number()
			wantNext(t, s, r, must, f)
			wantStand(t, s, r, slow.at, slow.left())
		}
	}
}

// TestReaderBySlowReckoning asks a reader this and that, at all kinds of bits.
func TestReaderBySlowReckoning(t *testing.T) {
	c := chance(88172645463325252)
	given := slices.Concat(small(), wrongs()[:30])
	for range 300 {
		x := api.Bits{}
		for range c.below(20) {
			x, _ = bits.Number(x, c.number())
		}
		given = append(given, x, c.bits(c.below(300)))
	}
	told := map[string]int{}
	for _, x := range given {
		r, slow := bits.Read(x), slowRead(x)
		for range 60 {
			switch c.below(4) {
			case 0:
				n := one(&c, edges()[c.below(len(edges()))], 0, 1, 4, c.below(66), slow.left(), slow.left()+1)
				must, f := slow.take(n)
				wantTake(t, short(x), r, n, must, f)
				told[fmt.Sprint("Take ", f)]++
			case 1:
				at := one(&c, edges()[c.below(len(edges()))], 0, slow.at-1, len(slow.signs), len(slow.signs)+1, c.below(len(slow.signs)+1))
				f := slow.seek(at)
				wantSeek(t, short(x), r, at, f)
				told[fmt.Sprint("Seek ", f)]++
			default:
				must, f := slow.number()
				wantNext(t, short(x), r, must, f)
				told[fmt.Sprint("Number ", f)]++
			}
			wantStand(t, short(x), r, slow.at, slow.left())
		}
	}
	for _, what := range []string{"Take 0", "Take 1", "Take 2", "Seek 0", "Seek 1", "Number 0", "Number 2"} {
		if told[what] < 500 {
			t.Errorf("%s: %d times: too few to tell", what, told[what])
		}
	}
}
