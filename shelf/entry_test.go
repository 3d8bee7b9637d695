package shelf_test

import (
	"slices"
	"testing"

	"windrose/api"
	"windrose/shelf"
)

// Entries whose Client or Id may not be are ErrArg, with zeros, whatever their op is.
func TestEntriesThatMayNotBe(t *testing.T) {
	for _, s := range []api.Shelf{{}, house(), crowd()} {
		for _, o := range []api.Op{write("cpu", 200, 1), trim(100), get("cpu", 110), sum(api.TotalSum, "cpu", 0, top), {}} {
			for _, x := range edges() {
				for _, e := range []api.Entry{entry(x, 1, o), entry(x, 5, o), entry(1, x, o), entry(2, x, o), entry(0, x, o), entry(x, x, o)} {
					hold(t, "edges", s, e)
					if e.Client >= 0 && e.Client <= maxCount && e.Id >= 1 && e.Id <= maxCount {
						continue
					}
					got, a, f := shelf.Do(s, e)
					if got.Lines != nil || got.Dones != nil || got.Floor != 0 || a != (api.Answer{}) || f != api.ErrArg {
						t.Errorf("Do(%s, %+v) = %s, %+v, %d", short(s), e, short(got), a, f)
					}
				}
			}
		}
	}
	for _, c := range []struct {
		client, id int
		must       api.Errno
	}{
		{-1, 1, api.ErrArg}, {0, 1, api.OK}, {1, 1, api.OK}, {maxCount, 1, api.OK}, {maxCount + 1, 1, api.ErrArg},
		{1, -1, api.ErrArg}, {1, 0, api.ErrArg}, {1, maxCount, api.OK}, {1, maxCount + 1, api.ErrArg},
		{0, 0, api.ErrArg}, {0, maxCount, api.OK}, {0, maxCount + 1, api.ErrArg}, {maxCount, maxCount, api.OK},
	} {
		if _, _, e := shelf.Do(house(), entry(c.client, c.id, get("mem", 105))); e != c.must {
			t.Errorf("an entry of %d, %d: %d, want %d", c.client, c.id, e, c.must)
		}
	}
}

// Of a shelf that may not be Do tells ErrArg with zeros, and Look ErrArg.
func TestOfShelvesThatMayNotBe(t *testing.T) {
	for _, change := range []func(*api.Shelf){
		func(s *api.Shelf) { s.Floor = -1 },
		func(s *api.Shelf) { s.Floor = 101 },
		func(s *api.Shelf) { s.Lines[2].Samples = nil },
		func(s *api.Shelf) { s.Lines[1].Series = "Cpu" },
		func(s *api.Shelf) { s.Dones[0].Id = 0 },
		func(s *api.Shelf) { s.Dones[2].Client = 4 },
		func(s *api.Shelf) { s.Lines = many(maxLines + 1) },
		func(s *api.Shelf) { s.Dones = clients(maxDones + 1) },
	} {
		s := with(house(), change)
		wantCheck(t, "may not be", s, false)
		for _, e := range entries() {
			got, a, f := shelf.Do(s, e)
			if got.Lines != nil || got.Dones != nil || got.Floor != 0 || a != (api.Answer{}) || f != api.ErrArg {
				t.Errorf("Do(%s, %+v) = %s, %+v, %d", short(s), e, short(got), a, f)
			}
			if a := shelf.Look(s, e.Op); a != code(api.ErrArg) {
				t.Errorf("Look(%s, %+v) = %+v", short(s), e.Op, a)
			}
		}
	}
}

// otherOps are such as would turn a house, or tell something, or are wrong.
func otherOps() []api.Op {
	return []api.Op{write("cpu", 200, 1), write("new", 200, 1), write("cpu", 100, 11), write("cpu", 5, 1), trim(120), trim(5), trim(-1), sum(api.TotalMax, "cpu", 0, top), get("cpu", 110), get("cpu", 111), get("Cpu", 5), {}, {Kind: api.OpKinds}}
}

// Of an Id that its Client's Done has the answer is told again; of a lesser one ErrOld: nothing turns, whatever the op is.
func TestEntriesThatWereDone(t *testing.T) {
	s := house()
	for _, o := range otherOps() {
		wantDo(t, "the same Id", s, entry(2, 5, o), s, has(0))
		wantDo(t, "the same Id of an error", s, entry(4, 1, o), s, code(api.ErrOther))
		wantDo(t, "the greatest Id", s, entry(9, maxCount, o), s, has(-7))
		for _, id := range []int{1, 2, 3, 4} {
			wantDo(t, "a lesser Id", s, entry(2, id, o), s, code(api.ErrOld))
		}
		for _, id := range []int{1, 5, maxCount - 1} {
			wantDo(t, "less than the greatest", s, entry(9, id, o), s, code(api.ErrOld))
		}
	}
	odd := api.Answer{Code: 77, Has: true, N: -5}
	s.Dones[0].Answer = odd
	wantDo(t, "any answer is told as it is", s, entry(2, 5, trim(120)), s, odd)
}

// Of a greater Id the op is done, and the Done is that Id, with what is told, errors too.
func TestEntriesOfGreaterIds(t *testing.T) {
	for at, d := range house().Dones[:2] {
		for _, id := range []int{d.Id + 1, d.Id + 2, 1000, maxCount} {
			for _, o := range otherOps() {
				s := house()
				must, answer, _ := slowDo(s, entry(0, 1, o))
				must = deep(must)
				must.Dones[at] = told(d.Client, id, answer)
				s = wantDo(t, "a greater Id", s, entry(d.Client, id, o), must, answer)
				wantDo(t, "that again", s, entry(d.Client, id, o), must, answer)
				wantDo(t, "the one ahead", s, entry(d.Client, d.Id, o), must, code(api.ErrOld))
			}
		}
	}
}

func TestEntriesOfNewClients(t *testing.T) {
	for _, client := range []int{1, 3, 5, 8, 10, maxCount} {
		for _, id := range []int{1, 7, maxCount} {
			for _, o := range otherOps() {
				s := house()
				must, answer, _ := slowDo(s, entry(0, 1, o))
				must.Dones = append(slices.Clone(must.Dones), told(client, id, answer))
				slices.SortFunc(must.Dones, func(a, b api.Done) int { return a.Client - b.Client })
				wantDo(t, "a new client", s, entry(client, id, o), must, answer)
			}
		}
	}
	wantDo(t, "the first of all", api.Shelf{}, entry(7, 3, get("cpu", 5)), api.Shelf{Dones: []api.Done{told(7, 3, api.Answer{})}}, api.Answer{})
	wantDo(t, "the first of all, wrong", api.Shelf{}, entry(7, 3, api.Op{}), api.Shelf{Dones: []api.Done{told(7, 3, code(api.ErrArg))}}, code(api.ErrArg))
}

// Each error that an answer tells is kept in the Done, and told again, also where the op would be done by now.
func TestErrorsAreKept(t *testing.T) {
	s := crowd()
	first := s.Lines[0].Series
	for _, c := range []struct {
		op   api.Op
		must api.Answer
	}{
		{api.Op{}, code(api.ErrArg)},
		{write("Cpu", 60, 1), code(api.ErrArg)},
		{trim(-1), code(api.ErrArg)},
		{sum(0, first, 0, 0), code(api.ErrArg)},
		{get("", 5), code(api.ErrArg)},
		{write(first, 49, 1), code(api.ErrOld)},
		{trim(49), code(api.ErrOld)},
		{write(first, 51, 3), code(api.ErrFull)},
		{write("cpu", 60, 3), code(api.ErrFull)},
		{write(first, 50, 4), code(api.ErrOther)},
		{write(first, 50, 3), api.Answer{}},
		{get(first, 51), api.Answer{}},
		{get(first, 52), has(3)},
		{sum(api.TotalCount, first, 0, top), has(64)},
		{sum(api.TotalMin, first, 0, 0), api.Answer{}},
	} {
		must := with(s, func(s *api.Shelf) { s.Dones[2] = told(30, 200, c.must) })
		behind := wantDo(t, "kept", s, entry(30, 200, c.op), must, c.must)
		wantDo(t, "told again", behind, entry(30, 200, c.op), must, c.must)
		trimmed, _, _ := shelf.Do(behind, entry(10, 300, trim(178)))
		if len(trimmed.Lines) != 0 || trimmed.Floor != 178 {
			t.Fatalf("the test is wrong: %s", short(trimmed))
		}
		wantDo(t, "told again on another shelf", trimmed, entry(30, 200, c.op), trimmed, c.must)
	}
}

// Where there are eight Dones, a new client's takes the place of the first with the least Id.
func TestOneOfEightIsGone(t *testing.T) {
	for at := range maxDones {
		for _, client := range []int{1, 15, 45, 85, 999} {
			for _, id := range []int{1, 5, 500, maxCount} {
				s := crowd()
				s.Dones[at].Id = 5
				must := slices.Delete(slices.Clone(s.Dones), at, at+1)
				must = append(must, told(client, id, has(3)))
				slices.SortFunc(must, func(a, b api.Done) int { return a.Client - b.Client })
				behind := with(s, func(s *api.Shelf) { s.Dones = must })
				got := wantDo(t, "one is gone", s, entry(client, id, get(s.Lines[0].Series, 50)), behind, has(3))
				wantDo(t, "the new one is known", got, entry(client, id, trim(top)), behind, has(3))
				hold(t, "the one that is gone is new", got, entry(s.Dones[at].Client, 5, get(s.Lines[0].Series, 50)))
			}
		}
	}
	for first := range maxDones {
		for second := first + 1; second < maxDones; second++ {
			s := crowd()
			s.Dones[first].Id, s.Dones[second].Id = 7, 7
			got, _ := hold(t, "two share the least Id", s, entry(5, 1, get("cpu", 5)))
			if len(got.Dones) != maxDones || slices.Contains(got.Dones, s.Dones[first]) || !slices.Contains(got.Dones, s.Dones[second]) || got.Dones[0] != told(5, 1, api.Answer{}) {
				t.Errorf("of two that share the least Id, %d and %d: %+v", first, second, got.Dones)
			}
		}
	}
	alike := crowd()
	for i := range alike.Dones {
		alike.Dones[i].Id = 1
	}
	got, _ := hold(t, "all share an Id", alike, entry(maxCount, 1, get("cpu", 5)))
	if got.Dones[0].Client != 20 || got.Dones[7].Client != maxCount {
		t.Errorf("of all that share an Id: %+v", got.Dones)
	}
}

// None is gone where there are fewer than eight, where the client has one, and where there is no client.
func TestNoneIsGone(t *testing.T) {
	seven := with(crowd(), func(s *api.Shelf) { s.Dones = s.Dones[:7] })
	got, _ := hold(t, "seven", seven, entry(5, 1, get("cpu", 5)))
	if len(got.Dones) != 8 || !slices.Equal(got.Dones[1:], seven.Dones) {
		t.Errorf("one more than seven: %+v", got.Dones)
	}
	for at, d := range crowd().Dones {
		must := with(crowd(), func(s *api.Shelf) { s.Dones[at] = told(d.Client, 900, api.Answer{}) })
		wantDo(t, "one that has one", crowd(), entry(d.Client, 900, get("cpu", 5)), must, api.Answer{})
		wantDo(t, "one that is asked again", crowd(), entry(d.Client, d.Id, get("cpu", 5)), crowd(), d.Answer)
		wantDo(t, "one that is late", crowd(), entry(d.Client, 1, get("cpu", 5)), crowd(), code(api.ErrOld))
	}
	wantDo(t, "without a client", crowd(), entry(0, 1, get("cpu", 5)), crowd(), api.Answer{})
}

// An entry without a Client does its op each time, of whatever Id, and leaves no Done.
func TestWithoutAClient(t *testing.T) {
	var s api.Shelf
	must := api.Shelf{Lines: []api.Line{line("cpu", 5, 1)}}
	s = wantDo(t, "once", s, entry(0, 1, write("cpu", 5, 1)), must, has(0))
	for range 3 {
		s = wantDo(t, "again", s, entry(0, 1, write("cpu", 5, 1)), must, api.Answer{})
		s = wantDo(t, "of a greater Id", s, entry(0, 9, write("cpu", 5, 1)), must, api.Answer{})
		s = wantDo(t, "of another value", s, entry(0, 1, write("cpu", 5, 2)), must, code(api.ErrOther))
	}
	for i := range 20 {
		s = wantDo(t, "of one Id", s, entry(0, 7, trim(i)), func() api.Shelf {
			if i > 5 {
				return api.Shelf{Floor: i}
			}
			return api.Shelf{Lines: must.Lines, Floor: i}
		}(), api.Answer{})
	}
	wantDo(t, "below the floor", s, entry(0, 7, trim(5)), s, code(api.ErrOld))
}

// The epoch of an entry is of no account.
func TestEpochs(t *testing.T) {
	for _, x := range edges() {
		for _, e := range []api.Entry{entry(0, 1, write("cpu", 200, 1)), entry(2, 6, write("cpu", 200, 1)), entry(2, 5, trim(120)), entry(7, 1, trim(120))} {
			must, answer, _ := shelf.Do(house(), e)
			e.Epoch = x
			wantDo(t, "an epoch", house(), e, must, answer)
		}
	}
}

// Look tells what Do tells of an entry without a Client; that the shelf stays, memory_test.go holds.
func TestLookIsDo(t *testing.T) {
	looked := 0
	for _, s := range handed() {
		if shelf.Check(s) != api.OK {
			continue
		}
		for _, e := range entries()[:len(entries())-2] {
			_, a, f := shelf.Do(s, entry(0, 1+looked%9, e.Op))
			if l := shelf.Look(s, e.Op); l != a || f != api.OK {
				t.Errorf("Look(%s, %+v) = %+v, and Do tells %+v, %d", short(s), e.Op, l, a, f)
			}
			looked++
		}
	}
	if looked < 1000 {
		t.Errorf("the test is wrong: %d", looked)
	}
	s := house()
	for range 3 {
		if a := shelf.Look(s, write("new", 200, 1)); a != has(0) {
			t.Errorf("looked at again: %+v", a)
		}
	}
}
