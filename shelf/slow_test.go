package shelf_test

import (
	"maps"
	"regexp"
	"slices"

	"windrose/api"
)

// Texts of series, by the words of layer 3's chapter; that labels stand by rising names slowSeries looks after.
var (
	slowText  = regexp.MustCompile(`\A[a-z]{1,16}(\{[a-z]{1,16}="([ !#-\[\]-~]|\\"|\\\\){0,16}"(,[a-z]{1,16}="([ !#-\[\]-~]|\\"|\\\\){0,16}"){0,3}\})?\z`)
	slowLabel = regexp.MustCompile(`([a-z]{1,16})="(?:[^"\\]|\\.)*"`)
)

// slowSeries is whether a text is as a series is printed.
func slowSeries(s string) bool {
	if !slowText.MatchString(s) {
		return false
	}
	last := ""
	for _, l := range slowLabel.FindAllStringSubmatch(s, -1) {
		if l[1] <= last {
			return false
		}
		last = l[1]
	}
	return true
}

func slowSample(s api.Sample) bool {
	return s.T >= 0 && s.T <= top && s.V >= -top && s.V <= top
}

// slowMay is whether a shelf may be, by the chapter's words: each pair is looked at.
func slowMay(s api.Shelf) bool {
	if s.Floor < 0 || s.Floor > top || len(s.Lines) > maxLines || len(s.Dones) > maxDones {
		return false
	}
	for i, l := range s.Lines {
		for _, later := range s.Lines[i+1:] {
			if later.Series <= l.Series {
				return false
			}
		}
		if !slowSeries(l.Series) || !slowRow(l.Samples, s.Floor) {
			return false
		}
	}
	for i, d := range s.Dones {
		for _, later := range s.Dones[i+1:] {
			if later.Client <= d.Client {
				return false
			}
		}
		if d.Client < 1 || d.Client > maxCount || d.Id < 1 || d.Id > maxCount {
			return false
		}
	}
	return true
}

func slowRow(l []api.Sample, floor int) bool {
	if len(l) < 1 || len(l) > maxSamples {
		return false
	}
	for i, x := range l {
		for _, later := range l[i+1:] {
			if later.T <= x.T {
				return false
			}
		}
		if !slowSample(x) || x.T < floor {
			return false
		}
	}
	return true
}

// slowShelf is a shelf in which nothing stands in an order.
type slowShelf struct {
	values map[string]map[int]int
	dones  map[int]api.Done
	floor  int
}

func loose(s api.Shelf) slowShelf {
	l := slowShelf{values: map[string]map[int]int{}, dones: map[int]api.Done{}, floor: s.Floor}
	for _, line := range s.Lines {
		l.values[line.Series] = map[int]int{}
		for _, x := range line.Samples {
			l.values[line.Series][x.T] = x.V
		}
	}
	for _, d := range s.Dones {
		l.dones[d.Client] = d
	}
	return l
}

// ordered is the shelf of what stands loose.
func (l slowShelf) ordered() api.Shelf {
	s := api.Shelf{Floor: l.floor}
	for _, series := range slices.Sorted(maps.Keys(l.values)) {
		line := api.Line{Series: series}
		for _, t := range slices.Sorted(maps.Keys(l.values[series])) {
			line.Samples = append(line.Samples, api.Sample{T: t, V: l.values[series][t]})
		}
		s.Lines = append(s.Lines, line)
	}
	for _, client := range slices.Sorted(maps.Keys(l.dones)) {
		s.Dones = append(s.Dones, l.dones[client])
	}
	return s
}

// slowDo is Do by the chapter's words.
func slowDo(s api.Shelf, e api.Entry) (api.Shelf, api.Answer, api.Errno) {
	if !slowMay(s) || e.Client < 0 || e.Client > maxCount || e.Id < 1 || e.Id > maxCount {
		return api.Shelf{}, api.Answer{}, api.ErrArg
	}
	l := loose(s)
	last, is := l.dones[e.Client]
	if is && last.Id == e.Id {
		return s, last.Answer, api.OK
	}
	if is && last.Id > e.Id {
		return s, code(api.ErrOld), api.OK
	}
	a := l.do(e.Op)
	if e.Client == 0 {
		return l.ordered(), a, api.OK
	}
	if !is && len(l.dones) == 8 {
		delete(l.dones, slowLeast(s.Dones))
	}
	l.dones[e.Client] = told(e.Client, e.Id, a)
	return l.ordered(), a, api.OK
}

// slowLeast is the first client of those whose Id is the least: one that no Id is below, and ahead of which none is so.
func slowLeast(l []api.Done) int {
	for _, d := range l {
		if !slices.ContainsFunc(l, func(x api.Done) bool { return x.Id < d.Id }) {
			return d.Client
		}
	}
	return 0
}

// slowLook is Look by the chapter's words.
func slowLook(s api.Shelf, o api.Op) api.Answer {
	if !slowMay(s) {
		return code(api.ErrArg)
	}
	l := loose(s)
	return l.do(o)
}

// slowFold is Fold by the chapter's words.
func slowFold(l []api.Entry) api.Shelf {
	var s api.Shelf
	for _, e := range l {
		if next, _, code := slowDo(s, e); code == api.OK {
			s = next
		}
	}
	return s
}

// slowArg is whether doing an op tells ErrArg, by the chapter's words.
func slowArg(o api.Op) bool {
	noSample := o.Sample.T == 0 && o.Sample.V == 0
	switch o.Kind {
	case api.OpWrite:
		return o.From != 0 || o.To != 0 || o.Total != 0 || !slowSeries(o.Series) || !slowSample(o.Sample)
	case api.OpTrim:
		return o.Series != "" || !noSample || o.To != 0 || o.Total != 0 || o.From < 0 || o.From > top
	case api.OpTotal:
		return !noSample || !slowSeries(o.Series) || !slices.Contains(totals(), o.Total)
	case api.OpGet:
		return !noSample || o.To != 0 || o.Total != 0 || !slowSeries(o.Series)
	}
	return true
}

// do is what is told of an op by the chapter's words, one error behind the other.
func (l *slowShelf) do(o api.Op) api.Answer {
	switch {
	case slowArg(o):
		return code(api.ErrArg)
	case o.Kind == api.OpWrite:
		return l.write(o.Series, o.Sample)
	case o.Kind == api.OpTrim:
		return l.trim(o.From)
	case o.Kind == api.OpTotal:
		return slowTotal(o.Total, l.between(o.Series, o.From, o.To))
	}
	v, is := l.values[o.Series][o.From]
	return api.Answer{Has: is, N: v}
}

func (l *slowShelf) write(series string, x api.Sample) api.Answer {
	if x.T < l.floor {
		return code(api.ErrOld)
	}
	row, is := l.values[series]
	if !is {
		if len(l.values) == 16 {
			return code(api.ErrFull)
		}
		l.values[series] = map[int]int{x.T: x.V}
		return has(0)
	}
	if v, is := row[x.T]; is && v == x.V {
		return api.Answer{}
	} else if is {
		return code(api.ErrOther)
	}
	if len(row) == 64 {
		return code(api.ErrFull)
	}
	row[x.T] = x.V
	return has(0)
}

func (l *slowShelf) trim(from int) api.Answer {
	if from < l.floor {
		return code(api.ErrOld)
	}
	l.floor = from
	for _, row := range l.values {
		maps.DeleteFunc(row, func(t, _ int) bool { return t < from })
	}
	maps.DeleteFunc(l.values, func(_ string, row map[int]int) bool { return len(row) == 0 })
	return api.Answer{}
}

// between is a series' samples from one time on, ahead of another.
func (l *slowShelf) between(series string, from, to int) []api.Sample {
	var all []api.Sample
	for _, t := range slices.Sorted(maps.Keys(l.values[series])) {
		if t >= from && t < to {
			all = append(all, api.Sample{T: t, V: l.values[series][t]})
		}
	}
	return all
}

// slowTotal is what is told of a total, by the words of layer 13's chapter.
func slowTotal(kind int, l []api.Sample) api.Answer {
	all, grown := 0, 0
	var values []int
	for i, x := range l {
		all += x.V
		values = append(values, x.V)
		if i > 0 && x.V >= l[i-1].V {
			grown += x.V - l[i-1].V
		} else if i > 0 && x.V > 0 {
			grown += x.V
		}
	}
	slices.Sort(values)
	switch {
	case kind == api.TotalSum:
		return has(all)
	case kind == api.TotalCount:
		return has(len(l))
	case kind == api.TotalMin && len(l) > 0:
		return has(values[0])
	case kind == api.TotalMax && len(l) > 0:
		return has(values[len(l)-1])
	case kind == api.TotalRate && len(l) > 1:
		return has(grown * 60 / (l[len(l)-1].T - l[0].T))
	}
	return api.Answer{}
}
