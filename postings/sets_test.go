package postings_test

import (
	"fmt"
	"slices"
	"testing"

	"windrose/postings"
)

// wantSets holds And, Or of lists, and Without of the first two, against the slow reckoning.
func wantSets(t *testing.T, l ...[]int) {
	t.Helper()
	wantList(t, fmt.Sprintf("And(%s)", short(l...)), postings.And(l...), slowAnd(l...))
	wantList(t, fmt.Sprintf("Or(%s)", short(l...)), postings.Or(l...), slowOr(l...))
	if len(l) > 1 {
		wantList(t, fmt.Sprintf("Without(%s)", short(l...)), postings.Without(l[0], l[1]), slowWithout(l[0], l[1]))
	}
}

func TestAndKnown(t *testing.T) {
	wantList(t, "no lists", postings.And(), nil)
	wantList(t, "no lists", postings.And([][]int{}...), nil)
	wantList(t, "one", postings.And([]int{1, 2}), []int{1, 2})
	wantList(t, "two", postings.And([]int{1, 2, 3}, []int{2, 3, 4}), []int{2, 3})
	wantList(t, "three", postings.And([]int{1, 2, 3, 9}, []int{2, 3, 4, 9}, []int{0, 3, 9}), []int{3, 9})
	wantList(t, "apart", postings.And([]int{1, 3}, []int{2, 4}), nil)
	wantList(t, "with none", postings.And([]int{1, 3}, nil), nil)
	wantList(t, "with none", postings.And(nil, []int{1, 3}), nil)
	wantList(t, "one twice", postings.And([]int{1, 3}, []int{1, 3}), []int{1, 3})
	wantList(t, "with one that may not be", postings.And([]int{1, 3}, []int{1, 3, 3}), nil)
	wantList(t, "with one that may not be", postings.And([]int{1, 3}, []int{3, 1}, []int{1, 3}), nil)
	wantList(t, "one that may not be", postings.And([]int{-1, 3}), nil)
	wantList(t, "too many", postings.And(span(0, most+1)), nil)
	wantList(t, "too many, twice", postings.And(span(0, most+1), span(0, most+1)), nil)
	wantList(t, "as many as may be", postings.And(span(0, most), span(0, most)), span(0, most))
	wantList(t, "ends", postings.And([]int{0, top}, []int{0, 5, top}), []int{0, top})
}

func TestOrKnown(t *testing.T) {
	wantList(t, "no lists", postings.Or(), nil)
	wantList(t, "no lists", postings.Or([][]int{}...), nil)
	wantList(t, "one", postings.Or([]int{1, 2}), []int{1, 2})
	wantList(t, "two", postings.Or([]int{1, 2, 3}, []int{2, 3, 4}), []int{1, 2, 3, 4})
	wantList(t, "three", postings.Or([]int{5}, []int{1, 9}, []int{0, 5, 7}), []int{0, 1, 5, 7, 9})
	wantList(t, "with none", postings.Or([]int{1, 3}, nil), []int{1, 3})
	wantList(t, "with none", postings.Or(nil, nil, []int{1, 3}), []int{1, 3})
	wantList(t, "with one that may not be", postings.Or([]int{1, 3}, []int{7, 5}), []int{1, 3})
	wantList(t, "with two that may not be", postings.Or([]int{2, 2}, []int{1, 3}, []int{top + 1}), []int{1, 3})
	wantList(t, "one that may not be", postings.Or([]int{2, 2}), nil)
	wantList(t, "too many", postings.Or(span(0, most+1)), nil)
	wantList(t, "too many, and another one", postings.Or(span(0, most+1), []int{9}), []int{9})
	wantList(t, "ends", postings.Or([]int{top}, []int{0}), []int{0, top})
}

func TestWithoutKnown(t *testing.T) {
	wantList(t, "of two", postings.Without([]int{1, 2}, []int{2}), []int{1})
	wantList(t, "the first", postings.Without([]int{1, 2, 3}, []int{1, 5}), []int{2, 3})
	wantList(t, "between", postings.Without([]int{1, 2, 3}, []int{0, 2, 7}), []int{1, 3})
	wantList(t, "all", postings.Without([]int{1, 2, 3}, []int{0, 1, 2, 3, 4}), nil)
	wantList(t, "none", postings.Without([]int{1, 2, 3}, nil), []int{1, 2, 3})
	wantList(t, "of none", postings.Without(nil, []int{1, 2, 3}), nil)
	wantList(t, "apart", postings.Without([]int{1, 3}, []int{2, 4}), []int{1, 3})
	wantList(t, "one that may not be", postings.Without([]int{1, 2, 3}, []int{2, 2}), []int{1, 2, 3})
	wantList(t, "too many", postings.Without([]int{1, 2, 3}, span(0, most+1)), []int{1, 2, 3})
	wantList(t, "of one that may not be", postings.Without([]int{3, 2, 1}, []int{7}), nil)
	wantList(t, "of too many", postings.Without(span(0, most+1), []int{7}), nil)
	wantList(t, "of itself", postings.Without(span(0, most), span(0, most)), nil)
	wantList(t, "ends", postings.Without([]int{0, 7, top}, []int{0, top}), []int{7})
}

// TestOrOfTooMany: they have together as many as may be, one more, and many more; the last ones are left out.
func TestOrOfTooMany(t *testing.T) {
	even, odd := steps(0, 2, most), steps(1, 2, most)
	wantList(t, "by turns", postings.Or(even, odd), span(0, most))
	wantList(t, "by turns", postings.Or(odd, even), span(0, most))
	wantList(t, "the greater ones first", postings.Or(span(most, most), span(0, most)), span(0, most))
	wantList(t, "one more behind", postings.Or(span(0, most), []int{most}), span(0, most))
	wantList(t, "one more ahead", postings.Or(span(1, most), []int{0}), span(0, most))
	wantList(t, "one more ahead", postings.Or([]int{0}, span(1, most)), span(0, most))
	wantList(t, "one more between", postings.Or(even, []int{5}), slices.Concat([]int{0, 2, 4, 5, 6}, steps(8, 2, most-5)))
	wantList(t, "just as many", postings.Or(span(0, most-1), []int{9000}), append(span(0, most-1), 9000))
	wantList(t, "just as many", postings.Or(span(0, most), span(5, 9), []int{most - 1}), span(0, most))
	for cut := range 8 {
		at := cut * most / 8
		for _, more := range []int{0, 1, 2, 100} {
			a, b := span(0, at), span(at, most-at+more)
			if len(b) <= most {
				wantList(t, "two halves", postings.Or(a, b), span(0, most))
				wantList(t, "two halves", postings.Or(b, a), span(0, most))
			}
		}
	}
	var many [][]int
	for i := range 10 {
		many = append(many, steps(9-i, 10, most))
	}
	wantList(t, "ten by turns", postings.Or(many...), span(0, most))
	many = append(many, []int{most, most + 1}, []int{5, 5}, nil, []int{top})
	wantList(t, "ten by turns, and more", postings.Or(many...), span(0, most))
}

// TestOfManyLists: as many as there are, of one number each, of few, and of none.
func TestOfManyLists(t *testing.T) {
	for _, n := range []int{2, 3, 4, 5, 7, 8, 9, 100, 1000, 4095, 4096, 4097, 5000} {
		var ones, likes [][]int
		for i := range n {
			ones = append(ones, []int{n - 1 - i})
			likes = append(likes, []int{3, 10 + i, top})
		}
		wantList(t, "ones: Or", postings.Or(ones...), span(0, min(n, most)))
		wantList(t, "ones: And", postings.And(ones...), nil)
		wantList(t, "likes: And", postings.And(likes...), []int{3, top})
		must := append([]int{3}, span(10, n)...)
		if n < most-1 {
			must = append(must, top)
		}
		wantList(t, "likes: Or", postings.Or(likes...), must[:min(len(must), most)])
		likes[n/2] = []int{3, 3, top}
		wantList(t, "likes, and one that may not be: And", postings.And(likes...), nil)
		wantList(t, "none: Or", postings.Or(make([][]int, n)...), nil)
		wantList(t, "none: And", postings.And(make([][]int, n)...), nil)
	}
}

// TestSetsOfTwo: all lists among all, those that may not be, too.
func TestSetsOfTwo(t *testing.T) {
	all := some()
	for i, a := range all {
		wantSets(t, a)
		for j, b := range all {
			if (i+j)%23 == 0 || len(a)+len(b) < 1000 {
				wantSets(t, a, b)
			}
		}
	}
}

// TestSetsOfFew: all lists of the numbers 0 to 4, two by two, and three by three of 0 to 2.
func TestSetsOfFew(t *testing.T) {
	five, three := subsets(5), subsets(3)
	for _, a := range five {
		for _, b := range five {
			wantSets(t, a, b)
		}
	}
	for _, a := range three {
		for _, b := range three {
			for _, c := range three {
				wantSets(t, a, b, c)
			}
		}
	}
}

// subsets are all lists of the numbers below n, and one that may not be.
func subsets(n int) [][]int {
	all := [][]int{{1, 1}}
	for mask := range 1 << n {
		var l []int
		for i := range n {
			if mask>>i&1 == 1 {
				l = append(l, i)
			}
		}
		all = append(all, l)
	}
	return all
}

// TestSetsOfWrongs: each list that may not be, alone and among such as may.
func TestSetsOfWrongs(t *testing.T) {
	l := []int{0, 1, 5, 7, top}
	for _, w := range wrongs() {
		what := short(w)
		wantList(t, what, postings.And(w), nil)
		wantList(t, what, postings.And(l, w), nil)
		wantList(t, what, postings.And(w, l), nil)
		wantList(t, what, postings.And(w, w), nil)
		wantList(t, what, postings.Or(w), nil)
		wantList(t, what, postings.Or(l, w), l)
		wantList(t, what, postings.Or(w, l, w), l)
		wantList(t, what, postings.Without(l, w), l)
		wantList(t, what, postings.Without(w, l), nil)
		wantList(t, what, postings.Without(w, nil), nil)
		wantList(t, what, postings.Without(w, w), nil)
	}
}
