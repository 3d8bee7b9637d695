package postings_test

import (
	"fmt"
	"slices"
	"testing"

	"windrose/api"
	"windrose/postings"
)

// roomy is a list with room behind its end, in which something stands.
func roomy[T any](l []T, behind T) []T {
	all := append(slices.Clone(l), behind, behind, behind, behind, behind)
	return all[:len(l)]
}

// all is a list with the room behind its end.
func all[T any](l []T) []T { return l[:cap(l)] }

// spoil turns all of a list, and the room behind its end.
func spoil[T any](l []T, with T) {
	for i := range all(l) {
		all(l)[i] = with
	}
}

// calls are all that tell a list, done or refused, by two that they are handed.
func calls() []func(a, b []int) []int {
	first := func(l []int, _ api.Errno) []int { return l }
	l := []func(a, b []int) []int{
		func(a, b []int) []int { return postings.And(a) },
		func(a, b []int) []int { return postings.And(a, b) },
		func(a, b []int) []int { return postings.And(a, a, b, a) },
		func(a, b []int) []int { return postings.Or(a) },
		func(a, b []int) []int { return postings.Or(a, b) },
		func(a, b []int) []int { return postings.Or(a, nil) },
		func(a, b []int) []int { return postings.Or(nil, a) },
		func(a, b []int) []int { return postings.Or(nil, nil, a, b) },
		func(a, b []int) []int { return postings.Without(a, b) },
		func(a, b []int) []int { return postings.Without(a, nil) },
		func(a, b []int) []int { return postings.Without(b, a) },
		func(a, b []int) []int { d, _ := postings.Encode(a); return d.Nums },
		func(a, b []int) []int { return first(postings.Decode(api.Data{Nums: a})) },
	}
	for _, n := range []int{-1, 0, 1, 2, 5, 8, 9, 30, 4095, 4096, 5000, top, top + 1} {
		l = append(l, func(a, _ []int) []int { return first(postings.Add(a, n)) }, func(a, _ []int) []int { return first(postings.Remove(a, n)) })
	}
	return l
}

// handed are lists that are handed in, such as may be and such as may not, and numbers of data.
func handed() [][]int {
	return [][]int{nil, {}, {0}, {5}, {5, 6}, {0, 5, 9}, {5, 6, 7, 8, 20}, {top - 1, top}, span(0, most), steps(1, 2, most), span(3, most-1), steps(1, 5, 100), {5, 5}, {7, 5}, {-1, 5}, {5, top + 1}, span(0, most+1), {1, 9}, {2, 5, 0}, {5, 5, -4, 11}, {most, 0, -most}}
}

// TestNothingHandedInIsChanged: neither the lists, nor what lies behind their end.
func TestNothingHandedInIsChanged(t *testing.T) {
	for _, x := range handed() {
		for _, y := range handed() {
			a, b := roomy(x, 77), roomy(y, 78)
			ahead, beside := slices.Clone(all(a)), slices.Clone(all(b))
			for _, call := range calls() {
				call(a, b)
				call(a, a)
			}
			postings.Check(a)
			postings.Has(a, 5)
			postings.Rank(a, 9)
			w := postings.Walk(a)
			w.Next()
			w.Seek(9)
			if !slices.Equal(all(a), ahead) || !slices.Equal(all(b), beside) {
				t.Fatalf("%s: they have changed", short(x, y))
			}
		}
	}
}

// TestTheListOfListsIsNotChanged: neither what stands in it, nor what lies behind its end.
func TestTheListOfListsIsNotChanged(t *testing.T) {
	for n := range 9 {
		l := roomy(handed()[2:2+n], []int{77})
		before := fmt.Sprint(all(l))
		lists := slices.Clone(all(l))
		postings.And(l...)
		postings.Or(l...)
		if fmt.Sprint(all(l)) != before {
			t.Fatalf("%d lists: they have changed", n)
		}
		for i, x := range all(l) {
			if len(x) > 0 && &x[0] != &lists[i][0] {
				t.Fatalf("%d lists: another one stands at %d", n, i)
			}
		}
	}
}

// TestWhatStandsBehindTheEndCountsForNothing: answers are the same with and without room behind the lists.
func TestWhatStandsBehindTheEndCountsForNothing(t *testing.T) {
	for _, x := range handed() {
		for _, y := range handed() {
			for i, call := range calls() {
				if got, must := call(roomy(x, 77), roomy(y, 78)), call(slices.Clip(x), slices.Clip(y)); !slices.Equal(got, must) {
					t.Fatalf("call %d of %s: %s, want %s", i, short(x, y), short(got), short(must))
				}
			}
		}
	}
}

// TestAnswersAreNewMemory: what is told shares no memory with what was handed in, nor with another answer; spare room counts. So it is beside an error, too.
func TestAnswersAreNewMemory(t *testing.T) {
	seen := 0
	for _, x := range handed() {
		for _, y := range [][]int{nil, {5}, {0, 5, 6, 7, 9}, span(2, 9), span(0, most)} {
			for i, call := range calls() {
				a, b := roomy(x, 77), roomy(y, 78)
				one, two := call(a, b), call(a, b)
				must := slices.Clone(all(two))
				ahead, beside := slices.Clone(all(a)), slices.Clone(all(b))
				spoil(one, 55)
				if !slices.Equal(all(two), must) || !slices.Equal(all(a), ahead) || !slices.Equal(all(b), beside) {
					t.Fatalf("call %d of %s: an answer that is spoilt spoils more", i, short(x, y))
				}
				spoil(a, 5)
				spoil(b, 5)
				if !slices.Equal(all(two), must) {
					t.Fatalf("call %d of %s: what is handed in is spoilt, and the answer is, too", i, short(x, y))
				}
				seen += len(two)
			}
		}
	}
	if seen < 10000 {
		t.Errorf("%d: too few to tell", seen)
	}
}

// TestAWalkerKeepsACopy: what it was handed is spoilt, and it goes on; and it spoils nothing.
func TestAWalkerKeepsACopy(t *testing.T) {
	for _, l := range rights() {
		a := roomy(l, 77)
		w := postings.Walk(a)
		for i := range l {
			spoil(a, i)
			wantAt(t, short(l), w, l[i:])
			if i%2 == 0 {
				wantNext(t, short(l), w, l[i+1:])
			} else if i+1 < len(l) {
				wantSeek(t, short(l), w, l[i+1], l[i+1:])
			} else {
				wantSeek(t, short(l), w, top+1, nil)
			}
		}
		spoil(a, 5)
		wantBehind(t, short(l), w)
	}
}

// TestTextsAreNotChanged: of data that are handed in.
func TestTextsAreNotChanged(t *testing.T) {
	texts := roomy([]string{"cpu", "mem"}, "behind")
	before := slices.Clone(all(texts))
	postings.Decode(api.Data{Nums: []int{1, 5}, Texts: texts})
	if !slices.Equal(all(texts), before) {
		t.Error("they have changed")
	}
}

// TestAskedAgain: a call tells the same whatever was asked ahead of it.
func TestAskedAgain(t *testing.T) {
	var told []string
	for round := range 2 {
		i := 0
		for _, x := range handed() {
			for _, call := range calls() {
				s := fmt.Sprint(call(x, []int{5, 6, 9}))
				if round == 0 {
					told = append(told, s)
				} else if told[i] != s {
					t.Fatalf("call %d of %s: unlike answers", i, short(x))
				}
				i++
			}
		}
	}
}
