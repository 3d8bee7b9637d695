package shelf_test

import (
	"math"
	"slices"
	"strings"
	"testing"

	"windrose/api"
	"windrose/shelf"
)

// TestExample is the chapter's.
func TestExample(t *testing.T) {
	s, a, e := shelf.Do(api.Shelf{}, entry(1, 1, write("cpu", 5, 1)))
	if a != has(0) || e != api.OK {
		t.Errorf("the first one: %+v, %d", a, e)
	}
	_, a, e = shelf.Do(s, entry(1, 2, write("cpu", 5, 2)))
	if a != code(api.ErrOther) || e != api.OK {
		t.Errorf("the second one: %+v, %d", a, e)
	}
}

func TestWriteKnown(t *testing.T) {
	var s api.Shelf
	of := func(lines ...api.Line) api.Shelf { return api.Shelf{Lines: lines} }
	s = wantOp(t, "the first line", s, write("cpu", 5, 1), of(line("cpu", 5, 1)), has(0))
	s = wantOp(t, "again", s, write("cpu", 5, 1), s, api.Answer{})
	wantNot(t, "another value", s, write("cpu", 5, 2), api.ErrOther)
	wantNot(t, "another value, 0", s, write("cpu", 5, 0), api.ErrOther)
	s = wantOp(t, "behind it", s, write("cpu", 7, 1), of(line("cpu", 5, 1, 7, 1)), has(0))
	s = wantOp(t, "between", s, write("cpu", 6, -1), of(line("cpu", 5, 1, 6, -1, 7, 1)), has(0))
	s = wantOp(t, "at 0, of 0", s, write("cpu", 0, 0), of(line("cpu", 0, 0, 5, 1, 6, -1, 7, 1)), has(0))
	s = wantOp(t, "that again", s, write("cpu", 0, 0), s, api.Answer{})
	s = wantOp(t, "a line ahead", s, write("aaa", 5, 2), of(line("aaa", 5, 2), line("cpu", 0, 0, 5, 1, 6, -1, 7, 1)), has(0))
	s = wantOp(t, "a line behind", s, write("zzz", top, top), of(line("aaa", 5, 2), line("cpu", 0, 0, 5, 1, 6, -1, 7, 1), line("zzz", top, top)), has(0))
	s = wantOp(t, "a line between", s, write(`cpu{a="1"}`, 5, -top), of(line("aaa", 5, 2), line("cpu", 0, 0, 5, 1, 6, -1, 7, 1), line(`cpu{a="1"}`, 5, -top), line("zzz", top, top)), has(0))
	wantOp(t, "of all again", s, write(`cpu{a="1"}`, 5, -top), s, api.Answer{})
}

func TestWriteSeries(t *testing.T) {
	for _, text := range printed() {
		wantOp(t, "a series", api.Shelf{}, write(text, 5, 1), api.Shelf{Lines: []api.Line{line(text, 5, 1)}}, has(0))
	}
	for _, text := range slices.Concat(unread(), otherwise()) {
		for _, s := range []api.Shelf{{}, house(), crowd()} {
			wantNot(t, "no series", s, write(text, 200, 1), api.ErrArg)
			wantNot(t, "no series, ahead of the floor", s, write(text, 0, 1), api.ErrArg)
			wantNot(t, "no series of a total", s, sum(api.TotalSum, text, 0, top), api.ErrArg)
			wantNot(t, "no series of a time", s, get(text, 100), api.ErrArg)
		}
	}
}

func TestWriteSamples(t *testing.T) {
	for _, s := range []api.Shelf{{}, house(), crowd()} {
		for _, x := range misfits() {
			for _, text := range []string{"cpu", "new", `row{at="00"}`} {
				wantNot(t, "a sample that may not be", s, write(text, x.T, x.V), api.ErrArg)
			}
		}
	}
	for _, x := range edges() {
		hold(t, "a time", api.Shelf{}, entry(0, 1, write("cpu", x, 1)))
		hold(t, "a value", api.Shelf{}, entry(0, 1, write("cpu", 5, x)))
		hold(t, "a time in a house", house(), entry(0, 1, write("cpu", x, 1)))
		hold(t, "a value in a house", house(), entry(0, 1, write("cpu", 110, x)))
	}
}

func TestWriteAndFloor(t *testing.T) {
	for _, floor := range []int{0, 1, 5, 1000, top - 1, top} {
		s := api.Shelf{Floor: floor}
		wantOp(t, "at the floor", s, write("cpu", floor, 1), api.Shelf{Lines: []api.Line{line("cpu", floor, 1)}, Floor: floor}, has(0))
		for _, ahead := range []int{floor - 1, floor / 2, 0} {
			if ahead >= 0 && ahead < floor {
				wantNot(t, "ahead of it", s, write("cpu", ahead, 1), api.ErrOld)
			}
		}
		if floor < top {
			wantOp(t, "behind it", s, write("cpu", floor+1, 1), api.Shelf{Lines: []api.Line{line("cpu", floor+1, 1)}, Floor: floor}, has(0))
		}
	}
	wantNot(t, "ahead of the floor, of a line", house(), write("cpu", 99, 1), api.ErrOld)
	wantNot(t, "ahead of the floor, of no line", house(), write("new", 99, 1), api.ErrOld)
	wantOp(t, "at the floor, of a line", house(), write("mem", 100, 1), with(house(), func(s *api.Shelf) { s.Lines[3].Samples = row(100, 1, 105, 0) }), has(0))
}

func TestWriteIntoALineOf64(t *testing.T) {
	s := crowd()
	first := s.Lines[0].Series
	for i, x := range s.Lines[0].Samples {
		wantOp(t, "what is there", s, write(first, x.T, x.V), s, api.Answer{})
		wantNot(t, "another value", s, write(first, x.T, x.V+1), api.ErrOther)
		wantNot(t, "one more", s, write(first, x.T+1, x.V), api.ErrFull)
		less := with(s, func(s *api.Shelf) { s.Lines[0].Samples = slices.Delete(s.Lines[0].Samples, i, i+1) })
		wantOp(t, "the one that was gone", less, write(first, x.T, x.V), s, has(0))
	}
	wantNot(t, "one more at the end", s, write(first, top, 1), api.ErrFull)
}

func TestWriteIntoAShelfOf16(t *testing.T) {
	for n := range maxLines + 1 {
		s := api.Shelf{Lines: many(n)}
		for _, text := range []string{"aaa", "zzz", `row{at="075"}`} {
			if n == maxLines {
				wantNot(t, "a line more than may be", s, write(text, 50, 1), api.ErrFull)
				continue
			}
			_, a := hold(t, "one line more", s, entry(0, 1, write(text, 50, 1)))
			if a != has(0) {
				t.Errorf("a line more than %d: %+v", n, a)
			}
		}
	}
	s := crowd()
	for i := 1; i < maxLines; i++ {
		wantOp(t, "a line that is there", s, write(s.Lines[i].Series, 60, i), with(s, func(s *api.Shelf) {
			s.Lines[i].Samples = append(s.Lines[i].Samples, api.Sample{T: 60, V: i})
		}), has(0))
		wantOp(t, "what is there", s, write(s.Lines[i].Series, 50, i), s, api.Answer{})
		wantNot(t, "another value there", s, write(s.Lines[i].Series, 50, -1), api.ErrOther)
		less := with(s, func(s *api.Shelf) { s.Lines = slices.Delete(s.Lines, i, i+1) })
		wantOp(t, "a line that was gone", less, write(s.Lines[i].Series, 50, i), s, has(0))
	}
}

// Of several errors the one that the chapter names first is told: ErrArg, then ErrOld, then what Put tells, or that there is no room for a line.
func TestWriteErrorsInOrder(t *testing.T) {
	s := crowd()
	first := s.Lines[0].Series
	wantNot(t, "no series, and no room", s, write("Cpu", 60, 1), api.ErrArg)
	wantNot(t, "no series, ahead of the floor, no room", s, write("Cpu", 49, 1), api.ErrArg)
	wantNot(t, "no value, ahead of the floor, no room", s, write("cpu", 49, top+1), api.ErrArg)
	wantNot(t, "no time: ahead of the floor too", s, write(first, -1, 1), api.ErrArg)
	wantNot(t, "no value where another one is", s, write(first, 50, top+1), api.ErrArg)
	wantNot(t, "no value, and the line is full", s, write(first, 51, top+1), api.ErrArg)
	wantNot(t, "ahead of the floor, and the line is full", s, write(first, 49, 1), api.ErrOld)
	wantNot(t, "ahead of the floor, and no room for a line", s, write("cpu", 49, 1), api.ErrOld)
	wantNot(t, "another value, and the line is full", s, write(first, 50, 1), api.ErrOther)
	o := write(first, 49, 1)
	o.To = 1
	wantNot(t, "what is not asked, ahead of the floor", s, o, api.ErrArg)
	o = trim(49)
	o.To = 1
	wantNot(t, "what is not asked, below the floor", s, o, api.ErrArg)
	wantNot(t, "below the floor, and not 0 to 2^40", s, trim(-1), api.ErrArg)
}

func TestTrimKnown(t *testing.T) {
	s := house()
	of := func(floor int, lines ...api.Line) api.Shelf {
		return api.Shelf{Lines: lines, Dones: s.Dones, Floor: floor}
	}
	zone := `cpu{host="a",zone="b"}`
	for _, c := range []struct {
		from int
		must api.Shelf
	}{
		{100, s},
		{101, of(101, line("cpu", 110, 25, 120, 5), line(zone, 110, -7, 130, top), line("mem", 105, 0))},
		{105, of(105, line("cpu", 110, 25, 120, 5), line(zone, 110, -7, 130, top), line("mem", 105, 0))},
		{106, of(106, line("cpu", 110, 25, 120, 5), line(zone, 110, -7, 130, top))},
		{110, of(110, line("cpu", 110, 25, 120, 5), line(zone, 110, -7, 130, top))},
		{111, of(111, line("cpu", 120, 5), line(zone, 130, top))},
		{120, of(120, line("cpu", 120, 5), line(zone, 130, top))},
		{121, of(121, line(zone, 130, top))},
		{130, of(130, line(zone, 130, top))},
		{131, of(131)},
		{top, of(top)},
	} {
		wantOp(t, "trimmed", s, trim(c.from), c.must, api.Answer{})
		wantOp(t, "trimmed twice", c.must, trim(c.from), c.must, api.Answer{})
	}
	low := with(s, func(s *api.Shelf) { s.Floor = 3 })
	for _, from := range []int{3, 4, 99, 100} {
		wantOp(t, "none is gone", low, trim(from), with(s, func(s *api.Shelf) { s.Floor = from }), api.Answer{})
	}
}

func TestTrimEdges(t *testing.T) {
	for _, floor := range []int{0, 1, 100, top - 1, top} {
		s := api.Shelf{Lines: []api.Line{line("cpu", top, 1)}, Floor: floor}
		for _, from := range append(edges(), floor-1, floor, floor+1) {
			switch {
			case from < 0 || from > top:
				wantNot(t, "no time", s, trim(from), api.ErrArg)
			case from < floor:
				wantNot(t, "below the floor", s, trim(from), api.ErrOld)
			default:
				wantOp(t, "a time", s, trim(from), with(s, func(s *api.Shelf) { s.Floor = from }), api.Answer{})
			}
		}
	}
	wantOp(t, "nothing to trim", api.Shelf{}, trim(0), api.Shelf{}, api.Answer{})
	wantOp(t, "nothing to trim", api.Shelf{}, trim(5), api.Shelf{Floor: 5}, api.Answer{})
	wantOp(t, "the last of all times stays", api.Shelf{Lines: []api.Line{line("cpu", 5, 1, top, 1)}}, trim(top), api.Shelf{Lines: []api.Line{line("cpu", top, 1)}, Floor: top}, api.Answer{})
	for from := 48; from < 180; from++ {
		hold(t, "a crowd trimmed", crowd(), entry(0, 1, trim(from)))
	}
}

// Behind a trim there is room again, and what is ahead of the floor is refused.
func TestTrimMakesRoom(t *testing.T) {
	s := crowd()
	first := s.Lines[0].Series
	s = wantOp(t, "all but one line are gone", s, trim(51), api.Shelf{Lines: []api.Line{{Series: first, Samples: s.Lines[0].Samples[1:]}}, Dones: s.Dones, Floor: 51}, api.Answer{})
	s, a := hold(t, "a new line", s, entry(0, 1, write("cpu", 51, 1)))
	if a != has(0) {
		t.Errorf("a new line: %+v", a)
	}
	s, a = hold(t, "a new sample", s, entry(0, 1, write(first, 51, 1)))
	if a != has(0) {
		t.Errorf("a new sample: %+v", a)
	}
	wantNot(t, "one that is forgotten", s, write(first, 50, 3), api.ErrOld)
}

func TestTotalKnown(t *testing.T) {
	s := house()
	for _, c := range []struct {
		what     string
		series   string
		from, to int
		must     [5]api.Answer
	}{
		{"all", "cpu", 0, top, [5]api.Answer{has(40), has(5), has(25), has(3), has(60)}},
		{"from the first, ahead of the last", "cpu", 100, 120, [5]api.Answer{has(35), has(10), has(25), has(2), has(90)}},
		{"behind the first, with the last", "cpu", 101, 121, [5]api.Answer{has(30), has(5), has(25), has(2), has(30)}},
		{"one", "cpu", 110, 111, [5]api.Answer{has(25), has(25), has(25), has(1), {}}},
		{"one, by bounds at samples", "cpu", 110, 120, [5]api.Answer{has(25), has(25), has(25), has(1), {}}},
		{"between two", "cpu", 111, 120, [5]api.Answer{has(0), {}, {}, has(0), {}}},
		{"alike", "cpu", 110, 110, [5]api.Answer{has(0), {}, {}, has(0), {}}},
		{"turned round", "cpu", 120, 100, [5]api.Answer{has(0), {}, {}, has(0), {}}},
		{"turned round at the edges", "cpu", math.MaxInt, math.MinInt, [5]api.Answer{has(0), {}, {}, has(0), {}}},
		{"the edges of int", "cpu", math.MinInt, math.MaxInt, [5]api.Answer{has(40), has(5), has(25), has(3), has(60)}},
		{"ahead of all", "cpu", math.MinInt, 100, [5]api.Answer{has(0), {}, {}, has(0), {}}},
		{"behind all", "cpu", 121, math.MaxInt, [5]api.Answer{has(0), {}, {}, has(0), {}}},
		{"no line", "new", 0, top, [5]api.Answer{has(0), {}, {}, has(0), {}}},
		{"no line of these labels", `cpu{host="b"}`, 0, top, [5]api.Answer{has(0), {}, {}, has(0), {}}},
		{"values far apart", `cpu{host="a",zone="b"}`, 0, top, [5]api.Answer{has(top - 7), has(-7), has(top), has(2), has((top + 7) * 3)}},
		{"one of 0", "mem", 0, top, [5]api.Answer{has(0), has(0), has(0), has(1), {}}},
	} {
		for i, kind := range totals() {
			wantOp(t, c.what, s, sum(kind, c.series, c.from, c.to), s, c.must[i])
		}
	}
}

func TestTotalEdges(t *testing.T) {
	s := with(house(), func(s *api.Shelf) {
		s.Lines[0].Samples = row(0, top, 10, -top, 20, 3, top-1, 7, top, 9)
		s.Floor = 0
	})
	bounds := append(edges(), 9, 10, 11, 19, 20, 21)
	for _, kind := range totals() {
		for _, from := range bounds {
			for _, to := range bounds {
				o := sum(kind, "cpu", from, to)
				if a, must := shelf.Look(s, o), slowLook(s, o); a != must {
					t.Errorf("Look of %+v: %+v, want %+v", o, a, must)
				}
			}
			hold(t, "no line", s, entry(0, 1, sum(kind, "new", from, top)))
		}
	}
	for _, kind := range noTotals() {
		for _, text := range []string{"cpu", "new"} {
			wantNot(t, "no kind", s, sum(kind, text, 0, top), api.ErrArg)
			wantNot(t, "no kind of none", s, sum(kind, text, 5, 5), api.ErrArg)
			wantNot(t, "no kind of nothing", api.Shelf{}, sum(kind, text, 0, top), api.ErrArg)
		}
	}
}

func TestGetKnown(t *testing.T) {
	s := house()
	for _, c := range []struct {
		what   string
		series string
		at     int
		must   api.Answer
	}{
		{"the first", "cpu", 100, has(10)},
		{"between", "cpu", 110, has(25)},
		{"the last", "cpu", 120, has(5)},
		{"below 0", `cpu{host="a",zone="b"}`, 110, has(-7)},
		{"the greatest", `cpu{host="a",zone="b"}`, 130, has(top)},
		{"one of 0", "mem", 105, has(0)},
		{"ahead of all", "cpu", 99, api.Answer{}},
		{"between two", "cpu", 105, api.Answer{}},
		{"behind all", "cpu", 121, api.Answer{}},
		{"another line's", "mem", 100, api.Answer{}},
		{"no line", "new", 100, api.Answer{}},
		{"no line of these labels", `cpu{host="b"}`, 100, api.Answer{}},
		{"at 0", "cpu", 0, api.Answer{}},
	} {
		wantOp(t, c.what, s, get(c.series, c.at), s, c.must)
	}
	for _, at := range edges() {
		hold(t, "any time", house(), entry(0, 1, get("cpu", at)))
		hold(t, "no line", house(), entry(0, 1, get("new", at)))
		hold(t, "of nothing", api.Shelf{}, entry(0, 1, get("new", at)))
		if at != 0 && at != top && at != 100 {
			wantOp(t, "none there", api.Shelf{Lines: []api.Line{line("cpu", 0, 7, 100, 7, top, 7)}}, get("cpu", at), api.Shelf{Lines: []api.Line{line("cpu", 0, 7, 100, 7, top, 7)}}, api.Answer{})
		}
	}
}

// fields are an op's, each with what is not nought.
func fields() []func(*api.Op, int) {
	return []func(*api.Op, int){
		func(o *api.Op, _ int) { o.Series = "cpu" },
		func(o *api.Op, n int) { o.Sample.T = n },
		func(o *api.Op, n int) { o.Sample.V = n },
		func(o *api.Op, n int) { o.From = n },
		func(o *api.Op, n int) { o.To = n },
		func(o *api.Op, n int) { o.Total = n },
	}
}

func TestWhatIsNotAskedIsNought(t *testing.T) {
	for _, c := range []struct {
		op    api.Op
		asked []int
	}{
		{write("cpu", 100, 10), []int{0, 1, 2}},
		{write("new", 200, 7), []int{0, 1, 2}},
		{trim(100), []int{3}},
		{trim(110), []int{3}},
		{sum(api.TotalSum, "cpu", 100, 120), []int{0, 3, 4, 5}},
		{sum(api.TotalRate, "new", 0, 0), []int{0, 3, 4, 5}},
		{get("cpu", 110), []int{0, 3}},
		{get("new", 0), []int{0, 3}},
	} {
		if _, a := hold(t, "as asked", house(), entry(0, 1, c.op)); a.Code != api.OK || shelf.CheckOp(c.op) != api.OK {
			t.Errorf("%+v is refused: %+v", c.op, a)
		}
		for i, set := range fields() {
			if slices.Contains(c.asked, i) {
				continue
			}
			for _, n := range []int{1, -1, 2, 5, 100, 120, top, math.MaxInt, math.MinInt} {
				o := c.op
				set(&o, n)
				wantNot(t, "not asked", house(), o, api.ErrArg)
				wantNot(t, "not asked", api.Shelf{}, o, api.ErrArg)
			}
		}
	}
	o := trim(100)
	o.Series = " "
	wantNot(t, "a text that is none", house(), o, api.ErrArg)
	o.Series = strings.Repeat("q", 1<<20)
	wantNot(t, "a long text", house(), o, api.ErrArg)
}

func TestNoKindsOfOps(t *testing.T) {
	for _, kind := range noOps() {
		for _, o := range []api.Op{{}, write("cpu", 110, 25), trim(110), sum(api.TotalSum, "cpu", 0, top), get("cpu", 110)} {
			o.Kind = kind
			wantNot(t, "no kind", house(), o, api.ErrArg)
			wantNot(t, "no kind", api.Shelf{}, o, api.ErrArg)
		}
	}
	wantNot(t, "the zero op", house(), api.Op{}, api.ErrArg)
	for kind := api.OpWrite; kind < api.OpKinds; kind++ {
		o := api.Op{Kind: kind}
		if must := kind != api.OpTrim; (shelf.CheckOp(o) == api.ErrArg) != must {
			t.Errorf("CheckOp(%+v) = %d", o, shelf.CheckOp(o))
		}
	}
}

// All ops of few texts and numbers: CheckOp tells ErrArg just where doing the op does, on whatever shelf.
func TestCheckOpIsWhatDoingTells(t *testing.T) {
	numbers := []int{-1, 0, 1, 5, 6, top, top + 1}
	shelves := []api.Shelf{{}, house(), crowd()}
	wrong, right := 0, 0
	for kind := -1; kind <= api.OpKinds; kind++ {
		for _, series := range []string{"", "cpu", "Cpu", `cpu{b="",a=""}`} {
			for at := range len(numbers) * len(numbers) * len(numbers) * len(numbers) * len(numbers) {
				rest := at
				pick := func() int {
					n := numbers[rest%len(numbers)]
					rest /= len(numbers)
					return n
				}
				o := api.Op{Kind: kind, Series: series, Sample: api.Sample{T: pick(), V: pick()}, From: pick(), To: pick(), Total: pick()}
				e := shelf.CheckOp(o)
				if e != api.OK {
					wrong++
				} else {
					right++
				}
				if (e == api.ErrArg) != slowArg(o) || e != api.OK && e != api.ErrArg {
					t.Fatalf("CheckOp(%+v) = %d", o, e)
				}
				if e == api.OK || at%97 == 0 {
					for _, s := range shelves {
						if a := shelf.Look(s, o); (a.Code == api.ErrArg) != (e == api.ErrArg) {
							t.Fatalf("CheckOp(%+v) = %d, and Look tells %+v", o, e, a)
						}
					}
				}
			}
		}
	}
	if wrong < 1000 || right < 100 {
		t.Errorf("the test is wrong: %d, %d", wrong, right)
	}
}
