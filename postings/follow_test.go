package postings_test

import (
	"fmt"
	"slices"
	"testing"

	"windrose/api"
	"windrose/postings"
)

// drawn are lists that are drawn one by one: few of them, near to one another, so that they have much in common; now and then one may not be.
func (c *chance) drawn() [][]int {
	l := make([][]int, c.below(6))
	below := one(c, 8, 60, 300, 9000)
	for i := range l {
		l[i] = c.list(c.below(min(below, most)+1), below)
		if c.below(12) == 0 {
			l[i] = append(l[i], one(c, edges()...), one(c, -1, top+1))
		}
	}
	return l
}

// mixed is a list in another order.
func (c *chance) mixed(l [][]int) [][]int {
	l = slices.Clone(l)
	for i := range l {
		j := c.below(i + 1)
		l[i], l[j] = l[j], l[i]
	}
	return l
}

// TestAsOfSets: drawn lists, in whatever order they stand.
func TestAsOfSets(t *testing.T) {
	c := chance(123456789)
	for range 600 {
		l := c.drawn()
		and, or := slowAnd(l...), slowOr(l...)
		for range 4 {
			what := short(l...)
			wantList(t, "And "+what, postings.And(l...), and)
			wantList(t, "Or "+what, postings.Or(l...), or)
			if len(l) > 1 {
				wantList(t, "Without "+what, postings.Without(l[0], l[1]), slowWithout(l[0], l[1]))
			}
			l = c.mixed(l)
		}
	}
}

// TestAskedOfAnswers: it is one whether lists are asked at once, or one behind the other, or by halves; once, or twice.
func TestAskedOfAnswers(t *testing.T) {
	c := chance(987654321)
	for range 400 {
		l := c.drawn()
		if len(l) == 0 {
			continue
		}
		what := short(l...)
		and, or := postings.And(l...), postings.Or(l...)
		step, least := l[0], l[0]
		for _, x := range l {
			step, least = postings.And(step, x), postings.Or(least, x)
		}
		wantList(t, "And, step by step "+what, step, and)
		wantList(t, "Or, step by step "+what, least, or)
		half := c.below(len(l))
		wantList(t, "Or by halves "+what, postings.Or(postings.Or(l[:half]...), postings.Or(l[half:]...)), or)
		wantList(t, "And twice "+what, postings.And(slices.Concat(l, l)...), and)
		wantList(t, "Or twice "+what, postings.Or(slices.Concat(l, l)...), or)
	}
}

// TestLawsOfSets: what is in one and not in the other, and what is in both, is the one again; and more of that kind.
func TestLawsOfSets(t *testing.T) {
	c := chance(192837465)
	for range 600 {
		below := one(&c, 20, 200, 3000, top)
		a, b, d := c.list(c.below(300), below), c.list(c.below(300), below), c.list(c.below(300), below)
		only, both := postings.Without(a, b), postings.And(a, b)
		what := short(a, b, d)
		wantList(t, "apart and together "+what, postings.Or(only, both), postings.Or(a))
		wantList(t, "nothing in common "+what, postings.And(only, b), nil)
		wantList(t, "less is none "+what, postings.Without(both, a), nil)
		wantList(t, "one of two, with a third one "+what, postings.And(postings.Or(a, b), d), postings.Or(postings.And(a, d), postings.And(b, d)))
		wantList(t, "without one of two "+what, postings.Without(a, postings.Or(b, d)), postings.Without(postings.Without(a, b), d))
		wantList(t, "without both "+what, postings.Without(a, postings.And(b, d)), postings.Or(postings.Without(a, b), postings.Without(a, d)))
	}
}

// TestAnswersMayBe: what And, Or, Without, Add, Remove and Decode tell are lists that may be.
func TestAnswersMayBe(t *testing.T) {
	all := some()
	for i, a := range all {
		b := all[(i*7+3)%len(all)]
		added, _ := postings.Add(a, i*i)
		removed, _ := postings.Remove(a, i)
		read, _ := postings.Decode(api.Data{Nums: a})
		for j, l := range [][]int{postings.And(a, b), postings.Or(a, b), postings.Without(a, b), added, removed, read} {
			if e := postings.Check(l); e != api.OK {
				t.Errorf("answer %d of %s: %s, error %d", j, short(a, b), short(l), e)
			}
		}
	}
}

// TestDataAreReadBack: of drawn lists, of all subsets of few numbers, and of what is told of lists.
func TestDataAreReadBack(t *testing.T) {
	c := chance(1181783497)
	var l [][]int
	for range 2000 {
		l = append(l, c.list(c.below(one(&c, 5, 50, 200)), one(&c, 30, 300, 5000, top)))
	}
	for range 20 {
		l = append(l, c.list(most, one(&c, 5000, 8000, top)))
	}
	for _, x := range subsets(12)[1:] {
		l = append(l, x)
	}
	l = append(l, rights()...)
	for i, x := range l {
		l = append(l, postings.Or(x, l[i/2]))
	}
	seen := map[string]int{}
	for i, x := range l {
		d, e := postings.Encode(x)
		if e != api.OK || !slices.Equal(d.Nums, slowData(x)) {
			t.Fatalf("Encode(%s): %s, error %d", short(x), short(d.Nums), e)
		}
		got, e := postings.Decode(d)
		wantTold(t, "read back", got, e, x, api.OK)
		key := fmt.Sprint(d.Nums)
		if j, ok := seen[key]; ok && !slices.Equal(l[j], x) {
			t.Fatalf("%s and %s: data that are alike", short(x), short(l[j]))
		}
		seen[key] = i
	}
}

// TestAddedAndRemoved: what is added is there, and is there no more once it is removed.
func TestAddedAndRemoved(t *testing.T) {
	c := chance(777767777)
	for range 2000 {
		l := c.list(c.below(60), one(&c, 100, top))
		n := c.below(one(&c, 100, top))
		if postings.Has(l, n) {
			continue
		}
		more, e := postings.Add(l, n)
		if e != api.OK || !postings.Has(more, n) || len(more) != len(l)+1 || postings.Rank(more, n) != postings.Rank(l, n) || more[postings.Rank(l, n)] != n {
			t.Fatalf("Add(%s, %d): %s, error %d", short(l), n, short(more), e)
		}
		wantList(t, "Or", postings.Or(l, []int{n}), more)
		wantRemove(t, more, n, l, api.OK)
		wantList(t, "Without", postings.Without(more, []int{n}), l)
	}
}

// TestAWalkerTellsAll: one by one it tells a list, and its Seek goes where Rank says.
func TestAWalkerTellsAll(t *testing.T) {
	for _, l := range rights() {
		var got []int
		w := postings.Walk(l)
		for n, ok := w.At(); ok; n, ok = w.Next() {
			got = append(got, n)
		}
		wantList(t, "walked", got, l)
		for _, n := range beside(l) {
			wantSeek(t, short(l), postings.Walk(l), n, l[postings.Rank(l, n):])
		}
	}
}
