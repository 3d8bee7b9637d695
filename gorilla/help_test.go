package gorilla_test

import (
	"fmt"
	"math"
	"slices"
	"strings"
	"testing"

	"windrose/api"
	"windrose/gorilla"
)

const (
	most = 64
	top  = 1 << 40
)

// row is samples of times and values by turns.
func row(l ...int) []api.Sample {
	var all []api.Sample
	for i := 0; i < len(l); i += 2 {
		all = append(all, api.Sample{T: l[i], V: l[i+1]})
	}
	return all
}

// led are the samples that numbers, two a sample, lead to.
func led(nums ...int) []api.Sample {
	var l []api.Sample
	var last, step api.Sample
	for i := 0; i < len(nums); i += 2 {
		own := api.Sample{T: nums[i], V: nums[i+1]}
		if i > 2 {
			own.T, own.V = own.T+step.T, own.V+step.V
		}
		last, step = api.Sample{T: last.T + own.T, V: last.V + own.V}, own
		l = append(l, last)
	}
	return l
}

// still are the numbers of so many samples that stand in runs.
func still(n int) []int { return make([]int, 2*n) }

// even is so many samples of one value at one distance.
func even(n int) []api.Sample { return led(append([]int{100, 7, 10, 0}, still(n)...)...)[:n] }

// rough is so many samples of which none stands in a run.
func rough(n int) []api.Sample {
	l := make([]api.Sample, n)
	for i := range l {
		l[i] = api.Sample{T: 3*i + i*i, V: -5 * i}
	}
	return l
}

// wild is so many samples that jump as far as they may.
func wild(n int) []api.Sample {
	l := make([]api.Sample, n)
	for i := range l {
		l[i] = api.Sample{T: i, V: top}
		if i%2 == 1 {
			l[i].V = -top
		}
	}
	l[n-1].T = top
	return l
}

// of are the bits of a text of noughts and ones; blanks in it count for nothing.
func of(s string) api.Bits {
	s = strings.ReplaceAll(s, " ", "")
	x := api.Bits{N: len(s)}
	for i, sign := range s {
		if i%8 == 0 {
			x.B = append(x.B, 0)
		}
		if sign == '1' {
			x.B[i/8] |= []byte{0x80, 0x40, 0x20, 0x10, 0x08, 0x04, 0x02, 0x01}[i%8]
		}
	}
	return x
}

// text are bits that may be, as a text of noughts and ones.
func text(x api.Bits) string {
	var s strings.Builder
	for _, b := range x.B {
		fmt.Fprintf(&s, "%08b", b)
	}
	return s.String()[:x.N]
}

// chunk is one of a text of noughts and ones.
func chunk(n, first, last int, s string) api.Chunk {
	return api.Chunk{N: n, First: first, Last: last, Bits: of(s)}
}

// whole is all that is to be seen of a chunk, as a text: nil and the empty list are alike.
func whole(c api.Chunk) string {
	return fmt.Sprintf("%d %d %d %d %x", c.N, c.First, c.Last, c.Bits.N, c.Bits.B)
}

// short is something as a text that is not too long.
func short(x any) string { return fmt.Sprintf("%.200s", fmt.Sprint(x)) }

// edges are numbers at the ends of times, of values, of their differences, and of an int.
func edges() []int {
	l := []int{0, 1, -1, 2, -2, 10, math.MaxInt, math.MinInt, math.MaxInt - 1, math.MinInt + 1}
	for _, bit := range []int{16, 31, 32, 39, 40, 41, 42, 43, 61, 62} {
		l = append(l, 1<<bit-1, 1<<bit, 1<<bit+1, -1<<bit-1, -1<<bit, -1<<bit+1)
	}
	return l
}

// classes are numbers at the edges of the classes of layer 17, up to the greatest that samples have.
func classes() []int {
	return []int{0, 1, -1, 2, 62, 63, -63, -64, 64, 65, -65, -66, 2046, 2047, -2047, -2048, 2048, 2049, -2049, -2050,
		524286, 524287, -524287, -524288, 524288, 524289, -524289, -524290, 1 << 31, -1 << 31, 1 << 39, -1 << 39, top - 1, top, 1 - top, -top, 2*top - 1, 2 * top, -2 * top, 4 * top, -4 * top}
}

// runs are how many samples stand one behind the other in runs.
func runs() []int { return []int{1, 2, 3, 14, 15, 16, 17, 18, 31, 32, 33, 34, 47, 48, 49, 61} }

// breaks are numbers of a sample behind a run: of another distance, another value, or both.
func breaks() [][]int {
	return [][]int{{1, 0}, {-1, 0}, {0, 1}, {0, -1}, {500, 0}, {0, 5000}, {0, -top / 64}, {3, -4}, {-9, 0}}
}

// lists are samples that may be, one of them at least.
func lists() [][]api.Sample {
	l := append(fews(), ran()...)
	for _, n := range []int{1, 2, 3, 4, 5, 17, 18, 19, 20, 33, 34, 35, 62, 63, 64} {
		l = append(l, even(n), rough(n), wild(n))
	}
	c := chance(2463534242)
	for range 300 {
		l = append(l, c.samples(1+c.below(most)))
	}
	return l
}

// fews are one, two and three samples, and their numbers at the edges of the classes.
func fews() [][]api.Sample {
	l := [][]api.Sample{row(0, 0), row(top, top), row(top, -top), row(0, 0, 1, 0, 2, 0), row(0, 0, top, 0)}
	for _, n := range classes() {
		for _, few := range [][]api.Sample{
			led(n, 0), led(0, n), led(n, n),
			led(0, 0, n, 0), led(5, 7, n, 0), led(0, 0, 1, n), led(0, top, 1, n), led(0, -top, 1, n), led(3, 1, n, n),
			led(0, 0, 1, 0, n, 0), led(0, 0, top/2, 0, n, 0), led(0, 0, 1, 0, 0, n), led(0, top, 1, -2*top, 0, n), led(0, -top, 1, 2*top, 0, n), led(1, 1, 1-n, 2-n, n, n),
		} {
			if slowRow(few) {
				l = append(l, few)
			}
		}
	}
	return l
}

// ran are samples that stand in runs: at the third one, in the midst, at the end, and twice.
func ran() [][]api.Sample {
	var l [][]api.Sample
	for _, n := range runs() {
		l = append(l, led(append([]int{1000, 7, 10, 0}, still(n)...)...), led(append([]int{0, 0, 1, 0}, still(n)...)...), led(append([]int{0, -5, 100, 3}, still(n)...)...))
		for _, b := range breaks() {
			behind := slices.Concat([]int{1000, 7, 10, 0}, still(n), b)
			midst := slices.Concat([]int{1000, 7, 10, 0, 3, 2, 1, 1}, still(n), b, []int{0, 0})
			twice := slices.Concat([]int{1000, 7, 10, 0}, still(n), b, still(n))
			near := slices.Concat([]int{1000, 7, 10, 0}, still(n), b, []int{1, 1}, still(15))
			for _, nums := range [][]int{behind, midst, twice, near} {
				if len(nums) <= 2*most {
					l = append(l, led(nums...))
				}
			}
		}
	}
	return l
}

// wrongLists are samples that may not be, and none.
func wrongLists() [][]api.Sample {
	l := [][]api.Sample{nil, {}, row(5, 0, 5, 0), row(5, 0, 5, 1), row(5, 0, 4, 0), row(0, 0, 0, 0), row(1, 0, 2, 0, 2, 0), row(1, 0, 2, 0, 1, 0), row(top, 0, 0, 0), row(math.MaxInt, 0, math.MinInt, 0)}
	for _, x := range edges() {
		if x < 0 || x > top {
			l = append(l, row(x, 0), row(x, 0, 5, 0), row(5, 0, x, 0), row(0, 0, 1, 0, x, 0))
		}
		if x < -top || x > top {
			l = append(l, row(0, x), row(0, 0, 1, x), row(0, x, 1, 0), row(0, 0, 1, 0, 2, x))
		}
	}
	for _, n := range []int{65, 66, 128, 1000} {
		l = append(l, even(n), rough(n))
	}
	for i := 1; i < most; i++ {
		twice, fallen, great := even(most), even(most), even(most)
		twice[i].T = twice[i-1].T
		fallen[i].T = fallen[i-1].T - 1
		great[i].V = top + 1
		l = append(l, twice, fallen, great)
	}
	return l
}

// built is the chunk of samples that may be.
func built(t *testing.T, l []api.Sample) api.Chunk {
	t.Helper()
	c, e := gorilla.Build(l)
	if e != api.OK {
		t.Fatalf("Build(%s): error %d", short(l), e)
	}
	return c
}

// wantChunk asks for a chunk that is told, and for the error beside.
func wantChunk(t *testing.T, what string, got api.Chunk, e api.Errno, must api.Chunk, f api.Errno) {
	t.Helper()
	if whole(got) != whole(must) || e != f {
		t.Errorf("%s: error %d, want %d; %s, want %s", what, e, f, short(whole(got)), short(whole(must)))
	}
}

// wantSamples asks for samples that are told, and for the error beside.
func wantSamples(t *testing.T, what string, got []api.Sample, e api.Errno, must []api.Sample, f api.Errno) {
	t.Helper()
	if !slices.Equal(got, must) || e != f {
		t.Errorf("%s: error %d, want %d; %s, want %s", what, e, f, short(got), short(must))
	}
}

// wantBuilt holds Build, Samples and Check of samples that may be against a chunk.
func wantBuilt(t *testing.T, l []api.Sample, must api.Chunk) {
	t.Helper()
	c, e := gorilla.Build(l)
	wantChunk(t, fmt.Sprintf("Build(%s)", short(l)), c, e, must, api.OK)
	wantRight(t, must, l)
}

// wantRight holds Samples and Check of a chunk that may be against its samples.
func wantRight(t *testing.T, c api.Chunk, l []api.Sample) {
	t.Helper()
	got, e := gorilla.Samples(c)
	wantSamples(t, fmt.Sprintf("Samples(%s)", short(whole(c))), got, e, l, api.OK)
	if e := gorilla.Check(c); e != api.OK {
		t.Errorf("Check(%s): error %d", short(whole(c)), e)
	}
}

// wantWrong asks all calls for what they tell of a chunk that may not be.
func wantWrong(t *testing.T, what string, c api.Chunk) {
	t.Helper()
	what = fmt.Sprintf("%s: %s", what, short(whole(c)))
	got, e := gorilla.Samples(c)
	wantSamples(t, what+": Samples", got, e, nil, api.ErrText)
	if e := gorilla.Check(c); e != api.ErrText {
		t.Errorf("%s: Check: error %d", what, e)
	}
	for _, s := range row(5, 5, -1, 0, 0, 0, c.Last, 0, c.Last+1, 0, top, 0, 0, top+1, math.MinInt, math.MinInt) {
		y, e := gorilla.Append(c, s)
		wantChunk(t, what+": Append", y, e, api.Chunk{}, api.ErrText)
	}
	for _, span := range [][]int{{0, top}, {0, 0}, {math.MinInt, math.MaxInt}, {5, -5}} {
		l, e := gorilla.Slice(c, span[0], span[1])
		wantSamples(t, what+": Slice", l, e, nil, api.ErrText)
	}
	d, e := gorilla.Encode(c)
	if e != api.ErrText || len(d.Nums) != 0 || len(d.Texts) != 0 {
		t.Errorf("%s: Encode: %s, error %d", what, short(d), e)
	}
	y, e := gorilla.Decode(dataOf(c))
	wantChunk(t, what+": Decode", y, e, api.Chunk{}, api.ErrText)
	wantNone(t, what, gorilla.Open(c))
}

// dataOf is what the data of a chunk would be, be it one that may be or not.
func dataOf(c api.Chunk) api.Data {
	return api.Data{Nums: []int{c.N, c.First, c.Last, c.Bits.N}, Texts: []string{string(c.Bits.B)}}
}

// wantNext asks a cursor for its next sample; wantSkip for that from a time on.
func wantNext(t *testing.T, what string, x *gorilla.Cursor, must api.Sample, ok bool) {
	t.Helper()
	if s, has := x.Next(); s != must || has != ok {
		t.Errorf("%s: Next: %v, %v, want %v, %v", what, s, has, must, ok)
	}
}

func wantSkip(t *testing.T, what string, x *gorilla.Cursor, time int, must api.Sample, ok bool) {
	t.Helper()
	if s, has := x.Skip(time); s != must || has != ok {
		t.Errorf("%s: Skip(%d): %v, %v, want %v, %v", what, time, s, has, must, ok)
	}
}

// wantNone asks for a cursor that stands behind all.
func wantNone(t *testing.T, what string, x *gorilla.Cursor) {
	t.Helper()
	for range 2 {
		wantNext(t, what, x, api.Sample{}, false)
		for _, time := range edges() {
			wantSkip(t, what, x, time, api.Sample{}, false)
		}
	}
}

// chance is a row of numbers without a pattern, the same in each run.
type chance uint64

func (c *chance) next() uint64 {
	x := uint64(*c)
	x ^= x << 13
	x ^= x >> 7
	x ^= x << 17
	*c = chance(x)
	return x
}

func (c *chance) below(n int) int { return int(c.next() >> 33 % uint64(n)) }

// one is one of a list.
func one[T any](c *chance, l ...T) T { return l[c.below(len(l))] }

// samples are n that may be, now and then many of one value at one distance.
func (c *chance) samples(n int) []api.Sample {
	var l []api.Sample
	at, step := api.Sample{T: c.below(one(c, 1, 100, 1<<30)), V: c.below(1000) - 500}, api.Sample{T: 1 + c.below(100), V: one(c, 0, 0, 1, -7)}
	for len(l) < n {
		for range one(c, 1, 1, 2, 5, 17, 40) {
			l = append(l, at)
			at.T, at.V = at.T+step.T, at.V+step.V
		}
		switch c.below(3) {
		case 0:
			step.T = 1 + c.below(one(c, 5, 300, 70000, 1<<30))
		case 1:
			step.V = c.below(one(c, 1, 5, 300, 1<<30)) - c.below(one(c, 1, 3, 1<<20))
		}
	}
	return l[:n]
}
