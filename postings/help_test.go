package postings_test

import (
	"fmt"
	"math"
	"slices"
	"testing"

	"windrose/api"
	"windrose/postings"
)

const (
	most = 4096
	top  = 1<<31 - 1
)

// span are so many numbers that follow one another, from one on.
func span(from, n int) []int { return steps(from, 1, n) }

// steps are so many numbers at one distance, from one on.
func steps(from, by, n int) []int {
	l := make([]int, n)
	for i := range l {
		l[i] = from + i*by
	}
	return l
}

// rows are numbers that follow one another, row behind row: each is told by its first number, and by how many it has.
func rows(l ...int) []int {
	var all []int
	for i := 0; i < len(l); i += 2 {
		all = append(all, span(l[i], l[i+1])...)
	}
	return all
}

// edges are numbers at the ends of what may be, of a list, and of an int.
func edges() []int {
	l := []int{0, 1, -1, 2, -2, 3, -3, 4095, 4096, 4097, -4095, -4096, -4097, math.MaxInt, math.MinInt, math.MaxInt - 1, math.MinInt + 1}
	for _, bit := range []int{16, 30, 31, 32, 33, 62} {
		l = append(l, 1<<bit-2, 1<<bit-1, 1<<bit, 1<<bit+1, -1<<bit-1, -1<<bit, -1<<bit+1)
	}
	return l
}

// mayNot are those of the edges that no list has.
func mayNot() []int {
	return slices.DeleteFunc(edges(), func(n int) bool { return n >= 0 && n <= top })
}

// rights are lists that may be: of none, of one, of few, with rows at all places, and of as many as may be.
func rights() [][]int {
	l := [][]int{
		nil, {}, {0}, {1}, {7}, {top}, {top - 1}, {0, top}, {0, 1}, {0, 2}, {5, 6}, {5, 7}, {top - 1, top}, {0, 1, top - 1, top},
		{0, 1, 2}, {5, 6, 7}, {top - 2, top - 1, top}, {5, 6, 7, 8, 20}, {5, 6, 20, 21}, {1, 3, 5, 7}, {0, 2, 3, 5, 6, 7, 9},
		rows(0, 4, 10, 4), rows(0, 3, 4, 3, 8, 3), rows(5, 3, 9, 3), rows(5, 3, 9, 1), rows(5, 3, 9, 2), rows(5, 2, 8, 3), rows(5, 2, 8, 2, 11, 2), rows(0, 1, 5, 3, 100, 1), rows(0, 3, top-2, 3), rows(3, 100, 200, 7), rows(10, 1, 12, 50, 63, 1),
		span(0, most), span(1, most), span(top-most+1, most), span(0, most-1), span(5, most-1), steps(0, 2, most), steps(0, 2, most-1), steps(1, 3, most), steps(0, top/most, most),
		rows(0, most/2, most, most/2), rows(0, 1, 2, most-1), rows(0, most-1, top, 1), rows(0, most-2, most, 2), rows(0, most-3, most-2, 3),
	}
	c := chance(88172645463325252)
	for range 60 {
		l = append(l, c.list(c.below(one(&c, 2, 5, 40, 300)), one(&c, 9, 400, 100000, top)))
	}
	for range 6 {
		l = append(l, c.list(most, one(&c, 5000, 9000, top)), c.list(most-1, one(&c, 5000, 9000, top)))
	}
	return l
}

// wrongs are lists that may not be: with numbers that may not be at each place, with one twice, with falling ones, and of too many.
func wrongs() [][]int {
	l := [][]int{
		{0, 0}, {5, 5}, {top, top}, {1, 0}, {top, 0}, {5, 4}, {1, 2, 2}, {1, 1, 2}, {1, 2, 1}, {2, 1, 3}, {3, 2, 1}, {0, 1, 2, 3, 3}, {0, 5, 4, 9},
		span(0, most+1), steps(0, 2, most+1), steps(5, 100, most+1), span(top-most, most+1), span(0, most+2), span(0, 2*most), steps(0, 1, 10*most), make([]int, most), make([]int, most+1),
		{math.MaxInt, math.MinInt}, {math.MinInt, math.MaxInt}, {-1, 0, 1}, {-5, -4, -3}, {top, top + 1}, {top - 1, top, top + 1},
	}
	for _, n := range mayNot() {
		l = append(l, []int{n}, []int{n, 5}, []int{5, n}, []int{0, 5, n}, []int{0, n, 5}, []int{n, n})
	}
	for i := 1; i < most; i += 97 {
		twice, fallen, low, high := span(9, most), steps(9, 3, most), span(9, most), steps(9, 3, most)
		twice[i] = twice[i-1]
		fallen[i] = fallen[i-1] - 1
		low[i] = -1
		high[i] = top + 1
		l = append(l, twice, fallen, low, high)
	}
	last := span(0, most)
	last[most-1] = most - 2
	return append(l, last)
}

// some are lists, such as may be among such as may not.
func some() [][]int {
	return append(rights(), []int{3, 3}, []int{7, 5}, []int{-1, 5}, []int{0, 1, 2, top + 1}, span(0, most+1), []int{math.MinInt, 5})
}

// beside are all numbers of a list, and those beside them, at few places if they are many; and the edges.
func beside(l []int) []int {
	all := edges()
	for i := 0; i < len(l); i += 1 + len(l)/50 {
		all = append(all, l[i]-1, l[i], l[i]+1)
	}
	if len(l) > 0 {
		end := l[len(l)-1]
		all = append(all, end-1, end, end+1)
	}
	return all
}

// short are lists as a text that is not too long.
func short(l ...[]int) string {
	s := ""
	for _, x := range l[:min(len(l), 9)] {
		s += fmt.Sprintf(" %d:%v", len(x), x[:min(len(x), 12)])
	}
	return fmt.Sprintf("%d lists:%s", len(l), s)
}

// wantList asks for a list that is told.
func wantList(t *testing.T, what string, got, must []int) {
	t.Helper()
	if !slices.Equal(got, must) {
		t.Errorf("%s: %s, want %s", what, short(got), short(must))
	}
}

// wantTold asks for a list that is told, and for the error beside.
func wantTold(t *testing.T, what string, got []int, e api.Errno, must []int, f api.Errno) {
	t.Helper()
	wantList(t, what, got, must)
	if e != f {
		t.Errorf("%s: error %d, want %d", what, e, f)
	}
}

// wantAdd, wantRemove hold one call against a list and an error.
func wantAdd(t *testing.T, l []int, n int, must []int, f api.Errno) {
	t.Helper()
	got, e := postings.Add(l, n)
	wantTold(t, fmt.Sprintf("Add(%s, %d)", short(l), n), got, e, must, f)
}

func wantRemove(t *testing.T, l []int, n int, must []int, f api.Errno) {
	t.Helper()
	got, e := postings.Remove(l, n)
	wantTold(t, fmt.Sprintf("Remove(%s, %d)", short(l), n), got, e, must, f)
}

// wantData holds Encode and Decode of a list against its numbers.
func wantData(t *testing.T, l []int, nums ...int) {
	t.Helper()
	d, e := postings.Encode(l)
	if !slices.Equal(d.Nums, nums) || len(d.Texts) != 0 || e != api.OK {
		t.Errorf("Encode(%s): %s, %d texts, error %d, want %s", short(l), short(d.Nums), len(d.Texts), e, short(nums))
	}
	got, e := postings.Decode(api.Data{Nums: nums})
	wantTold(t, fmt.Sprintf("Decode(%s)", short(nums)), got, e, l, api.OK)
}

// wantNoData asks Decode for what it tells of numbers that are no list's.
func wantNoData(t *testing.T, what string, nums ...int) {
	t.Helper()
	got, e := postings.Decode(api.Data{Nums: nums})
	wantTold(t, fmt.Sprintf("%s: Decode(%s)", what, short(nums)), got, e, nil, api.ErrText)
}

// wantAt asks a walker where it stands, and how many there are from there on; wantNext and wantSeek let it go on ahead of that.
func wantAt(t *testing.T, what string, w *postings.Walker, left []int) {
	t.Helper()
	n, ok := w.At()
	wantStand(t, what+": At", n, ok, left)
	if got := w.Left(); got != len(left) {
		t.Errorf("%s: Left: %d, want %d", what, got, len(left))
	}
}

func wantNext(t *testing.T, what string, w *postings.Walker, left []int) {
	t.Helper()
	n, ok := w.Next()
	wantStand(t, what+": Next", n, ok, left)
	wantAt(t, what, w, left)
}

func wantSeek(t *testing.T, what string, w *postings.Walker, to int, left []int) {
	t.Helper()
	n, ok := w.Seek(to)
	wantStand(t, fmt.Sprintf("%s: Seek(%d)", what, to), n, ok, left)
	wantAt(t, what, w, left)
}

// wantStand asks that a number is the first one of those that are left; 0 and false, if there is none.
func wantStand(t *testing.T, what string, n int, ok bool, left []int) {
	t.Helper()
	must := 0
	if len(left) > 0 {
		must = left[0]
	}
	if n != must || ok != (len(left) > 0) {
		t.Errorf("%s: %d, %v, want %d, %v", what, n, ok, must, len(left) > 0)
	}
}

// wantBehind asks for a walker that stands behind all, and stays there.
func wantBehind(t *testing.T, what string, w *postings.Walker) {
	t.Helper()
	for range 2 {
		wantAt(t, what, w, nil)
		wantNext(t, what, w, nil)
		for _, n := range edges() {
			wantSeek(t, what, w, n, nil)
		}
	}
}

// chance is a row of numbers without a pattern, the same in each run.
type chance uint64

func (c *chance) next() uint64 {
	x := uint64(*c)
	x ^= x << 13
	x ^= x >> 7
	x ^= x << 17
	*c = chance(x)
	return x
}

func (c *chance) below(n int) int { return int(c.next() >> 33 % uint64(n)) }

// one is one of a list.
func one[T any](c *chance, l ...T) T { return l[c.below(len(l))] }

// list is one that may be, of n numbers below another one at most, now and then with rows.
func (c *chance) list(n, below int) []int {
	has := map[int]bool{}
	for tries := 0; len(has) < n && tries < 10*n; tries++ {
		from := c.below(below)
		for i := range one(c, 1, 1, 2, 3, 4, 20) {
			if len(has) < n && from+i < below {
				has[from+i] = true
			}
		}
	}
	return sorted(has)
}
