package shelf_test

import (
	"math"
	"slices"
	"testing"

	"windrose/api"
	"windrose/shelf"
)

func TestCheckKnown(t *testing.T) {
	wantCheck(t, "of nothing", api.Shelf{}, true)
	wantCheck(t, "of empty lists", api.Shelf{Lines: []api.Line{}, Dones: []api.Done{}}, true)
	wantCheck(t, "of all kinds", house(), true)
	wantCheck(t, "of as much as may be", crowd(), true)
	for n := range maxLines + 1 {
		wantCheck(t, "of lines alone", api.Shelf{Lines: many(n)}, true)
	}
	for n := range maxDones + 1 {
		wantCheck(t, "of Dones alone", api.Shelf{Dones: clients(n)}, true)
	}
	wantCheck(t, "17 lines", api.Shelf{Lines: many(maxLines + 1)}, false)
	wantCheck(t, "9 Dones", api.Shelf{Dones: clients(maxDones + 1)}, false)
	wantCheck(t, "many lines", api.Shelf{Lines: many(5000)}, false)
	wantCheck(t, "many Dones", api.Shelf{Dones: clients(5000)}, false)
	wantCheck(t, "17 lines, and a floor behind them", api.Shelf{Lines: many(maxLines + 1), Floor: top}, false)
}

func TestCheckFloor(t *testing.T) {
	for _, x := range edges() {
		wantCheck(t, "a floor", api.Shelf{Floor: x}, x >= 0 && x <= top)
		wantCheck(t, "a floor with Dones", api.Shelf{Floor: x, Dones: clients(1)}, x >= 0 && x <= top)
	}
	for _, x := range edges() {
		wantCheck(t, "a floor and a sample", api.Shelf{Floor: x, Lines: []api.Line{line("cpu", top, 1)}}, x >= 0 && x <= top)
		wantCheck(t, "a floor and a sample at 0", api.Shelf{Floor: x, Lines: []api.Line{line("cpu", 0, 1)}}, x == 0)
	}
}

func TestCheckOrderOfLines(t *testing.T) {
	l := printed()
	for i, a := range l {
		for j, b := range l {
			wantCheck(t, "two lines", api.Shelf{Lines: []api.Line{line(a, 5, 1), line(b, 5, 1)}}, i < j)
		}
	}
	for i := range maxLines {
		for j := range i {
			swap := crowd()
			swap.Lines[i], swap.Lines[j] = swap.Lines[j], swap.Lines[i]
			wantCheck(t, "two lines out of order", swap, false)
			twice := crowd()
			twice.Lines[i].Series = twice.Lines[j].Series
			wantCheck(t, "a series twice", twice, false)
		}
	}
	// By bytes: { stands behind all letters.
	wantCheck(t, "by bytes", api.Shelf{Lines: []api.Line{line("cpu", 5, 1), line("cpus", 5, 1), line(`cpu{a="1"}`, 5, 1)}}, true)
	wantCheck(t, "not by bytes", api.Shelf{Lines: []api.Line{line("cpu", 5, 1), line(`cpu{a="1"}`, 5, 1), line("cpus", 5, 1)}}, false)
	wantCheck(t, "by bytes, not by numbers", api.Shelf{Lines: []api.Line{line(`cpu{a="10"}`, 5, 1), line(`cpu{a="9"}`, 5, 1)}}, true)
}

func TestCheckSeries(t *testing.T) {
	for _, text := range printed() {
		wantCheck(t, "a series", api.Shelf{Lines: []api.Line{line(text, 5, 1)}}, true)
	}
	for _, text := range slices.Concat(unread(), otherwise()) {
		wantCheck(t, "no series", api.Shelf{Lines: []api.Line{line(text, 5, 1)}}, false)
		both := []api.Line{line("cpu", 5, 1), line(text, 5, 1)}
		slices.SortFunc(both, func(a, b api.Line) int { return slices.Compare([]byte(a.Series), []byte(b.Series)) })
		wantCheck(t, "no series beside one", api.Shelf{Lines: both}, false)
	}
}

func TestCheckSamples(t *testing.T) {
	of := func(floor int, l []api.Sample) api.Shelf {
		return api.Shelf{Lines: []api.Line{line("aaa", top, 1), {Series: "cpu", Samples: l}, line("zzz", top, 1)}, Floor: floor}
	}
	wantCheck(t, "none", of(0, nil), false)
	wantCheck(t, "the empty list", of(0, []api.Sample{}), false)
	wantCheck(t, "none, and a floor", of(5, nil), false)
	wantCheck(t, "64", of(0, even(maxSamples, 0, 1, 0)), true)
	wantCheck(t, "65", of(0, even(maxSamples+1, 0, 1, 0)), false)
	wantCheck(t, "very many", of(0, even(1<<16, 0, 1, 0)), false)
	wantCheck(t, "out of order", of(0, row(6, 1, 5, 1)), false)
	wantCheck(t, "a time twice", of(0, row(5, 1, 5, 1)), false)
	wantCheck(t, "the edges", of(0, row(0, -top, 1, top, top, 0)), true)
	for _, x := range misfits() {
		wantCheck(t, "a sample that may not be", of(0, []api.Sample{x}), false)
		wantCheck(t, "one behind another", of(0, []api.Sample{{T: 5, V: 5}, x}), false)
		wantCheck(t, "one ahead of another", of(0, []api.Sample{x, {T: top, V: 5}}), false)
	}
	for _, x := range edges() {
		wantCheck(t, "a time", of(0, row(x, 0)), x >= 0 && x <= top)
		wantCheck(t, "a value", of(0, row(5, x)), x >= -top && x <= top)
	}
}

func TestCheckSamplesAndFloor(t *testing.T) {
	for _, floor := range []int{0, 1, 5, 1000, top - 1, top} {
		for _, at := range []int{floor - 1, floor, floor + 1} {
			wantCheck(t, "one alone", api.Shelf{Lines: []api.Line{line("cpu", at, 1)}, Floor: floor}, at >= floor && at <= top)
			wantCheck(t, "behind others", api.Shelf{Lines: []api.Line{line("a", top, 1), line("cpu", at, 1)}, Floor: floor}, at >= floor && at <= top)
			wantCheck(t, "ahead of others", api.Shelf{Lines: []api.Line{line("a", at, 1), line("cpu", top, 1)}, Floor: floor}, at >= floor && at <= top)
		}
	}
	for n := range 10 {
		l := api.Shelf{Lines: []api.Line{{Series: "cpu", Samples: even(10, 10, 10, 1)}}, Floor: 10 + 10*n}
		wantCheck(t, "so many ahead of the floor", l, n == 0)
	}
	for i := range maxLines {
		s := crowd()
		s.Lines[i].Samples[0].T--
		wantCheck(t, "each line's first one ahead of the floor", s, false)
	}
}

func TestCheckDones(t *testing.T) {
	for _, x := range edges() {
		ok := x >= 1 && x <= maxCount
		wantCheck(t, "a client", api.Shelf{Dones: []api.Done{told(x, 1, has(0))}}, ok)
		wantCheck(t, "an Id", api.Shelf{Dones: []api.Done{told(1, x, has(0))}}, ok)
		wantCheck(t, "an Id behind another", api.Shelf{Dones: []api.Done{told(1, 1, has(0)), told(2, x, has(0))}}, ok)
		wantCheck(t, "a client behind another", api.Shelf{Dones: []api.Done{told(1, 1, has(0)), told(x, 1, has(0))}}, ok && x > 1)
		wantCheck(t, "a client ahead of another", api.Shelf{Dones: []api.Done{told(x, 1, has(0)), told(maxCount, 1, has(0))}}, ok && x < maxCount)
	}
	for _, x := range []int{0, 1, maxCount, maxCount + 1} {
		for _, y := range []int{0, 1, maxCount, maxCount + 1} {
			wantCheck(t, "both", api.Shelf{Dones: []api.Done{told(x, y, has(0))}}, x >= 1 && x <= maxCount && y >= 1 && y <= maxCount)
		}
	}
	for i := range maxDones {
		for j := range i {
			swap := crowd()
			swap.Dones[i], swap.Dones[j] = swap.Dones[j], swap.Dones[i]
			wantCheck(t, "two Dones out of order", swap, false)
			twice := crowd()
			twice.Dones[i].Client = twice.Dones[j].Client
			wantCheck(t, "a client twice", twice, false)
			alike := crowd()
			alike.Dones[i].Id = alike.Dones[j].Id
			wantCheck(t, "an Id twice", alike, true)
		}
	}
	falling := crowd()
	for i := range falling.Dones {
		falling.Dones[i].Id = 100 - i
	}
	wantCheck(t, "Ids that fall", falling, true)
}

// What an answer in a Done says is not asked.
func TestCheckAnswersOfDones(t *testing.T) {
	for _, x := range edges() {
		wantCheck(t, "a code", api.Shelf{Dones: []api.Done{told(1, 1, api.Answer{Code: api.Errno(x)})}}, true)
		wantCheck(t, "a number", api.Shelf{Dones: []api.Done{told(1, 1, api.Answer{N: x})}}, true)
		wantCheck(t, "both", api.Shelf{Dones: []api.Done{told(1, 1, api.Answer{Code: api.Errno(x), Has: true, N: x})}}, true)
	}
}

// What stands in the room behind a list's end is not looked at.
func TestCheckBehindTheEnd(t *testing.T) {
	s := deep(house())
	all(s.Lines)[len(s.Lines)] = line("", -1, -1)
	all(s.Dones)[len(s.Dones)] = told(-1, -1, has(0))
	wantCheck(t, "wrong behind the end", s, true)
}

// alikes are shelves of which no two are alike, each unlike the first one in one field.
func alikes() []api.Shelf {
	changes := []func(*api.Shelf){
		func(s *api.Shelf) {},
		func(s *api.Shelf) { s.Floor++ },
		func(s *api.Shelf) { s.Floor = -s.Floor },
		func(s *api.Shelf) { s.Lines[0].Series = "cpa" },
		func(s *api.Shelf) { s.Lines[3].Series = "men" },
		func(s *api.Shelf) { s.Lines[0].Samples[0].T++ },
		func(s *api.Shelf) { s.Lines[0].Samples[2].V++ },
		func(s *api.Shelf) { s.Lines[1].Samples[1].V = -top },
		func(s *api.Shelf) { s.Lines[0].Samples = s.Lines[0].Samples[:2] },
		func(s *api.Shelf) { s.Lines[0].Samples = append(s.Lines[0].Samples, api.Sample{}) },
		func(s *api.Shelf) { s.Lines[1].Samples = nil },
		func(s *api.Shelf) { s.Lines = s.Lines[:3] },
		func(s *api.Shelf) { s.Lines = s.Lines[1:] },
		func(s *api.Shelf) { s.Lines = nil },
		func(s *api.Shelf) { s.Lines = append(s.Lines, api.Line{}) },
		func(s *api.Shelf) { s.Lines[0], s.Lines[1] = s.Lines[1], s.Lines[0] },
		func(s *api.Shelf) { s.Dones[0].Client++ },
		func(s *api.Shelf) { s.Dones[1].Id++ },
		func(s *api.Shelf) { s.Dones[1].Answer.Code = api.ErrOld },
		func(s *api.Shelf) { s.Dones[0].Answer.Has = false },
		func(s *api.Shelf) { s.Dones[2].Answer.N = 7 },
		func(s *api.Shelf) { s.Dones = s.Dones[:2] },
		func(s *api.Shelf) { s.Dones = s.Dones[1:] },
		func(s *api.Shelf) { s.Dones = nil },
		func(s *api.Shelf) { s.Dones = append(s.Dones, api.Done{}) },
		func(s *api.Shelf) { s.Dones[0], s.Dones[1] = s.Dones[1], s.Dones[0] },
		func(s *api.Shelf) { *s = api.Shelf{} },
		func(s *api.Shelf) { *s = crowd() },
	}
	var l []api.Shelf
	for _, change := range changes {
		l = append(l, with(house(), change))
	}
	return l
}

func TestSame(t *testing.T) {
	l, other := alikes(), alikes()
	for i, a := range l {
		for j, b := range other {
			if shelf.Same(a, b) != (i == j) || shelf.Same(b, a) != (i == j) {
				t.Errorf("Same(%s, %s) is not %v", short(a), short(b), i == j)
			}
		}
	}
}

// nil and the empty list are alike, and what stands behind a list's end is of no account; shelves that may not be are held against each other as others are.
func TestSameOfWhatever(t *testing.T) {
	for _, c := range [][2]api.Shelf{
		{{}, {Lines: []api.Line{}, Dones: []api.Done{}}},
		{{Lines: []api.Line{{}}}, {Lines: []api.Line{{Samples: []api.Sample{}}}}},
		{{Lines: []api.Line{line("", 5, 1, 5, 1)}, Floor: -1}, {Lines: []api.Line{line("", 5, 1, 5, 1)}, Floor: -1}},
		{{Dones: []api.Done{told(-1, -1, has(math.MinInt)), told(-1, -1, has(5))}}, {Dones: []api.Done{told(-1, -1, has(math.MinInt)), told(-1, -1, has(5))}}},
		{house(), deep(house())},
		{{Lines: many(20)[:3]}, {Lines: many(3)}},
		{{Dones: clients(20)[:3]}, {Dones: clients(3)}},
		{{Lines: many(5000)}, {Lines: many(5000)}},
	} {
		if !shelf.Same(c[0], c[1]) || !shelf.Same(c[1], c[0]) {
			t.Errorf("not alike: %s, %s", short(c[0]), short(c[1]))
		}
	}
	if shelf.Same(api.Shelf{Floor: -1}, api.Shelf{Floor: -2}) || shelf.Same(api.Shelf{Lines: []api.Line{{}}}, api.Shelf{}) {
		t.Error("shelves that may not be, and are unlike, are alike")
	}
}
