package shelf_test

import (
	"fmt"
	"math"
	"slices"
	"strings"
	"testing"

	"windrose/api"
	"windrose/shelf"
)

const (
	maxLines   = 16
	maxDones   = 8
	maxSamples = 64
	maxCount   = 1<<31 - 1
	top        = 1 << 40
)

// row is samples of times and values by turns.
func row(l ...int) []api.Sample {
	var all []api.Sample
	for i := 0; i < len(l); i += 2 {
		all = append(all, api.Sample{T: l[i], V: l[i+1]})
	}
	return all
}

// even is so many samples of one value at one distance.
func even(n, first, distance, value int) []api.Sample {
	l := make([]api.Sample, n)
	for i := range l {
		l[i] = api.Sample{T: first + i*distance, V: value}
	}
	return l
}

// line is a series, and samples of times and values by turns.
func line(series string, l ...int) api.Line { return api.Line{Series: series, Samples: row(l...)} }

// told is what a client was told last.
func told(client, id int, a api.Answer) api.Done {
	return api.Done{Client: client, Id: id, Answer: a}
}

func write(series string, t, v int) api.Op {
	return api.Op{Kind: api.OpWrite, Series: series, Sample: api.Sample{T: t, V: v}}
}

func trim(from int) api.Op { return api.Op{Kind: api.OpTrim, From: from} }

func sum(kind int, series string, from, to int) api.Op {
	return api.Op{Kind: api.OpTotal, Series: series, From: from, To: to, Total: kind}
}

func get(series string, t int) api.Op {
	return api.Op{Kind: api.OpGet, Series: series, From: t}
}

func entry(client, id int, o api.Op) api.Entry { return api.Entry{Client: client, Id: id, Op: o} }

// code is an answer of an error, and no more.
func code(e api.Errno) api.Answer { return api.Answer{Code: e} }

// has is an answer of a number that there is.
func has(n int) api.Answer { return api.Answer{Has: true, N: n} }

// house is a shelf with something of all kinds, but with room: its times are 100 to 130, its floor is 100.
func house() api.Shelf {
	return api.Shelf{
		Lines: []api.Line{
			line("cpu", 100, 10, 110, 25, 120, 5),
			line(`cpu{host="a",zone="b"}`, 110, -7, 130, top),
			line(`cpu{host="a"}`, 100, 1),
			line("mem", 105, 0),
		},
		Dones: []api.Done{told(2, 5, has(0)), told(4, 1, code(api.ErrOther)), told(9, maxCount, has(-7))},
		Floor: 100,
	}
}

// many is so many lines of one sample each, at 50.
func many(n int) []api.Line {
	l := make([]api.Line, n)
	for i := range l {
		l[i] = line(fmt.Sprintf(`row{at="%02d"}`, i), 50, i)
	}
	return l
}

// clients are so many Dones of the clients 10, 20 and so on, with rising Ids from 100 on.
func clients(n int) []api.Done {
	l := make([]api.Done, n)
	for i := range l {
		l[i] = told(10+10*i, 100+i, has(i))
	}
	return l
}

// crowd is a shelf that has as many lines and Dones as may be; its first line has as many samples as may be.
func crowd() api.Shelf {
	s := api.Shelf{Lines: many(maxLines), Dones: clients(maxDones), Floor: 50}
	s.Lines[0].Samples = even(maxSamples, 50, 2, 3)
	return s
}

// with is a copy of a shelf, changed.
func with(s api.Shelf, change func(*api.Shelf)) api.Shelf {
	s = deep(s)
	change(&s)
	return s
}

// edges are numbers at the ends of counts, of times, of values, and of an int.
func edges() []int {
	l := []int{0, 1, -1, 2, -2, 100, math.MaxInt, math.MinInt, math.MaxInt - 1, math.MinInt + 1}
	for _, bit := range []int{31, 32, 39, 40, 41, 62} {
		l = append(l, 1<<bit-2, 1<<bit-1, 1<<bit, 1<<bit+1, -1<<bit-1, -1<<bit, -1<<bit+1)
	}
	return l
}

// unread are texts that can't be read as a series.
func unread() []string {
	return []string{
		"", " ", "Cpu", "cpu ", " cpu", "cpu7", "c_pu", "é", "cpu{", "cpu}", "cpu{}", "{}", `{host="a"}`, "cpu{host}", "cpu{host=}", "cpu{host=a}", `cpu{host="a}`, `cpu{host="a"`,
		`cpu{host="a",}`, `cpu{,host="a"}`, `cpu{host="a"}}`, `cpu{host="a"} `, `cpu{host="a" ,zone="b"}`, `cpu{host="a", zone="b"}`, `cpu{host ="a"}`, `cpu{="a"}`, `cpu{host="a",host="a"}`, `cpu{host="a",host="b"}`,
		`cpu{host="\a"}`, `cpu{host="\"}`, `cpu{host="""}`, "cpu{host=\"a\tb\"}", `cpu{host="é"}`, "cpu\x00", "cpu\n", "\xff", `cpu{Host="a"}`, `cpu{host=""a"}`,
		`cpu{a="",b="",c="",d="",e=""}`, strings.Repeat("q", 17), `cpu{` + strings.Repeat("q", 17) + `="a"}`, `cpu{host="` + strings.Repeat("q", 17) + `"}`, strings.Repeat("cpu", 1000),
	}
}

// otherwise are texts that are read as a series, which is printed otherwise.
func otherwise() []string {
	return []string{
		`cpu{zone="a",host="b"}`, `cpu{b="",a=""}`, `cpu{a="1",c="2",b="3"}`, `cpu{d="",c="",b="",a=""}`, `cpu{b="\\",a="\""}`,
	}
}

// printed are texts as series are printed, by rising bytes.
func printed() []string {
	l := []string{
		"cpu", "a", "z", strings.Repeat("q", 16), `cpu{host="b",zone="a"}`, `cpu{host="a"}`, `cpu{a="",b=""}`, `cpu{a="",b="",c="",d=""}`, `cpu{a="\\",b="\""}`, `cpu{host="{,}= "}`,
		`cpu{` + strings.Repeat("q", 16) + `="` + strings.Repeat("~", 16) + `"}`, `cpu{host="` + strings.Repeat(`\\`, 16) + `"}`, `cpu{host=""}`,
	}
	slices.Sort(l)
	return l
}

// misfits are samples that may not be.
func misfits() []api.Sample {
	return row(-1, 0, top+1, 0, 200, top+1, 200, -top-1, -1, top+1, 200, math.MaxInt, 200, math.MinInt, math.MinInt, 5, math.MaxInt, 5)
}

// totals are all kinds of totals.
func totals() []int {
	return []int{api.TotalSum, api.TotalMin, api.TotalMax, api.TotalCount, api.TotalRate}
}

// noTotals are numbers that are no kinds of totals.
func noTotals() []int {
	return []int{0, -1, api.TotalKinds, api.TotalKinds + 1, api.TotalSum - 2, -api.TotalRate, api.TotalSum + 1<<8, api.TotalSum + 1<<32, math.MaxInt, math.MinInt, math.MinInt + 1}
}

// noOps are numbers that are no kinds of ops.
func noOps() []int {
	return []int{0, -1, -api.OpGet, api.OpKinds, api.OpKinds + 1, api.OpWrite + 1<<8, api.OpGet + 1<<32, math.MaxInt, math.MinInt, math.MinInt + 1}
}

// text is something as a text: shelves are alike if their texts are, for nil and the empty list are printed alike.
func text(x any) string { return fmt.Sprintf("%+v", x) }

// short is something as a text that is not too long.
func short(x any) string {
	s := text(x)
	if len(s) > 700 {
		return s[:700] + ".."
	}
	return s
}

// hold holds Do and Look, of a shelf and an entry, against the slow reckoning; what Do tells is its answer.
func hold(t *testing.T, what string, s api.Shelf, e api.Entry) (api.Shelf, api.Answer) {
	t.Helper()
	must, answer, code := slowDo(s, e)
	got, a, f := shelf.Do(s, e)
	if text(got) != text(must) || a != answer || f != code {
		t.Errorf("%s: Do(%s, %+v) =\n%s, %+v, %d, want\n%s, %+v, %d", what, short(s), e, short(got), a, f, short(must), answer, code)
	}
	if l := slowLook(s, e.Op); shelf.Look(s, e.Op) != l {
		t.Errorf("%s: Look(%s, %+v) = %+v, want %+v", what, short(s), e.Op, shelf.Look(s, e.Op), l)
	}
	return got, a
}

// wantDo holds Do against what it must tell, and is the shelf behind it.
func wantDo(t *testing.T, what string, s api.Shelf, e api.Entry, must api.Shelf, answer api.Answer) api.Shelf {
	t.Helper()
	got, a, f := shelf.Do(s, e)
	if text(got) != text(must) || a != answer || f != api.OK {
		t.Errorf("%s: Do(%s, %+v) =\n%s, %+v, %d, want\n%s, %+v, 0", what, short(s), e, short(got), a, f, short(must), answer)
	}
	return got
}

// wantOp holds an op that is done without a Client, and Look, against what they must tell, and is the shelf behind it.
func wantOp(t *testing.T, what string, s api.Shelf, o api.Op, must api.Shelf, answer api.Answer) api.Shelf {
	t.Helper()
	if a := shelf.Look(s, o); a != answer {
		t.Errorf("%s: Look(%s, %+v) = %+v, want %+v", what, short(s), o, a, answer)
	}
	if e := shelf.CheckOp(o); (e == api.ErrArg) != (answer.Code == api.ErrArg) || e != api.ErrArg && e != api.OK {
		t.Errorf("%s: CheckOp(%+v) = %d, and doing it tells %+v", what, o, e, answer)
	}
	return wantDo(t, what, s, entry(0, 1, o), must, answer)
}

// wantNot holds an op that may not be done: nothing turns.
func wantNot(t *testing.T, what string, s api.Shelf, o api.Op, e api.Errno) {
	t.Helper()
	wantOp(t, what, s, o, s, code(e))
}

// wantCheck holds Check against what it must tell, and of a shelf that may not be the other calls too.
func wantCheck(t *testing.T, what string, s api.Shelf, mayBe bool) {
	t.Helper()
	must := api.ErrArg
	if mayBe {
		must = api.OK
	}
	if e := shelf.Check(s); e != must {
		t.Errorf("%s: Check(%s) = %d, want %d", what, short(s), e, must)
	}
	if slowMay(s) != mayBe {
		t.Errorf("%s: the test is wrong: of %s the slow reckoning tells %v", what, short(s), slowMay(s))
	}
	for _, o := range []api.Op{write("cpu", 200, 1), get("cpu", 5), {}} {
		for _, e := range []api.Entry{entry(0, 1, o), entry(2, 5, o), entry(77, 1, o), entry(-1, 0, o)} {
			hold(t, what, s, e)
		}
	}
}

// chance is a row of numbers without a pattern, the same in each run.
type chance uint64

func (c *chance) next() uint64 {
	x := uint64(*c)
	x ^= x << 13
	x ^= x >> 7
	x ^= x << 17
	*c = chance(x)
	return x
}

func (c *chance) below(n int) int { return int(c.next() >> 33 % uint64(n)) }

// one is one of a list.
func one[T any](c *chance, l ...T) T { return l[c.below(len(l))] }

// series is one of not many more than there is room for; now and then a text that is none.
func (c *chance) series() string {
	if c.below(25) == 0 {
		return one(c, one(c, unread()...), one(c, otherwise()...))
	}
	if c.below(3) == 0 {
		return one(c, "cpu", "mem", `cpu{host="a"}`)
	}
	return fmt.Sprintf(`row{at="%d"}`, c.below(20))
}

// time is one not far behind a floor, seldom ahead of it, or one that may not be.
func (c *chance) time(floor int) int {
	if c.below(40) == 0 {
		return one(c, -1, 0, top-1, top, top+1, math.MaxInt, math.MinInt)
	}
	return floor - 3 + c.below(70)
}

// op is one for a shelf of a floor; now and then with something that its kind does not ask.
func (c *chance) op(floor int) api.Op {
	var o api.Op
	switch c.below(40) {
	case 0:
		o = trim(floor - 1 + c.below(6))
	case 1, 2, 3, 4:
		o = sum(one(c, one(c, totals()...), one(c, totals()...), one(c, totals()...), one(c, noTotals()...)), c.series(), c.time(floor), c.time(floor))
	case 5, 6, 7, 8:
		o = get(c.series(), c.time(floor))
	default:
		o = write(c.series(), c.time(floor), one(c, 0, 1, c.below(5)-2, c.below(200)-100))
	}
	if c.below(40) == 0 {
		*one(c, &o.Kind, &o.Sample.T, &o.Sample.V, &o.From, &o.To, &o.Total) = one(c, -1, 0, 1, 2, 3, 4, 5, 6, top, math.MaxInt, math.MinInt)
	}
	return o
}

// entry is one of a few clients more than there is room for, of an Id that is near to the last one of it.
func (c *chance) entry(s api.Shelf) api.Entry {
	e := entry(c.below(11), 1+c.below(20), c.op(s.Floor))
	for _, d := range s.Dones {
		if d.Client == e.Client && c.below(20) > 0 {
			e.Id = min(max(d.Id+one(c, 1, 1, 1, 1, 2, 9, 0, 0, -1), 1), maxCount)
		}
	}
	if c.below(30) == 0 {
		e.Client = one(c, -1, maxCount, maxCount+1, math.MinInt, math.MaxInt)
	}
	if c.below(30) == 0 {
		e.Id = one(c, -1, 0, maxCount, maxCount+1, math.MinInt, math.MaxInt)
	}
	e.Epoch = one(c, 0, c.below(9), -1, math.MaxInt, math.MinInt)
	return e
}
