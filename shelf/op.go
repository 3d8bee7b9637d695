package shelf

import (
	"cmp"
	"slices"

	"windrose/api"
	"windrose/block"
	"windrose/label"
	"windrose/samples"
	"windrose/total"
)

// CheckOp tells why an op may not be.
func CheckOp(o api.Op) api.Errno {
	if o != asked(o) || !mayBeDone(o) {
		return api.ErrArg
	}
	return api.OK
}

// asked is an op with no more than its kind asks.
func asked(o api.Op) api.Op {
	switch o.Kind {
	case api.OpWrite:
		return api.Op{Kind: o.Kind, Series: o.Series, Sample: o.Sample}
	case api.OpTrim:
		return api.Op{Kind: o.Kind, From: o.From}
	case api.OpTotal:
		return api.Op{Kind: o.Kind, Series: o.Series, From: o.From, To: o.To, Total: o.Total}
	case api.OpGet:
		return api.Op{Kind: o.Kind, Series: o.Series, From: o.From}
	}
	return api.Op{Kind: o.Kind}
}

// mayBeDone tells whether what an op's kind asks is as it must be. A time that is asked for may be any: there is nothing at one that may not be.
func mayBeDone(o api.Op) bool {
	switch o.Kind {
	case api.OpWrite:
		return isSeries(o.Series) && block.Check([]api.Sample{o.Sample}) == api.OK
	case api.OpTrim:
		return within(o.From, 0, api.MaxTime)
	case api.OpTotal:
		return isSeries(o.Series) && within(o.Total, api.TotalSum, api.TotalKinds-1)
	case api.OpGet:
		return isSeries(o.Series)
	}
	return false
}

// isSeries tells whether a text is the one that its series is printed as: so no series has two lines.
func isSeries(text string) bool {
	s, e := label.Parse(text)
	if e != api.OK {
		return false
	}
	printed, e := label.Print(s)
	return e == api.OK && printed == text
}

// doOp turns a shelf that may be by an op, and is what is told. Beside an error nothing turns.
func doOp(s *api.Shelf, o api.Op) api.Answer {
	if e := CheckOp(o); e != api.OK {
		return api.Answer{Code: e}
	}
	switch o.Kind {
	case api.OpWrite:
		return write(s, o.Series, o.Sample)
	case api.OpTrim:
		return trim(s, o.From)
	case api.OpTotal:
		n, ok := total.Of(o.Total, samples.Range(samplesOf(s, o.Series), o.From, o.To))
		return api.Answer{Has: ok, N: n}
	}
	x, ok := samples.Get(samplesOf(s, o.Series), o.From)
	return api.Answer{Has: ok, N: x.V}
}

func write(s *api.Shelf, series string, x api.Sample) api.Answer {
	if x.T < s.Floor {
		return api.Answer{Code: api.ErrOld}
	}
	at, ok := line(s, series)
	if ok {
		return put(&s.Lines[at], x)
	}
	if len(s.Lines) >= api.MaxRows {
		return api.Answer{Code: api.ErrFull}
	}
	s.Lines = slices.Insert(s.Lines, at, api.Line{Series: series, Samples: []api.Sample{x}})
	return api.Answer{Has: true}
}

// put lays a sample into a line. One that is there already is no error to who writes it.
func put(l *api.Line, x api.Sample) api.Answer {
	with, e := samples.Put(l.Samples, x)
	switch e {
	case api.OK:
		l.Samples = with
		return api.Answer{Has: true}
	case api.ErrSame:
		return api.Answer{}
	}
	return api.Answer{Code: e}
}

func trim(s *api.Shelf, from int) api.Answer {
	if from < s.Floor {
		return api.Answer{Code: api.ErrOld}
	}
	s.Floor = from
	for i, l := range s.Lines {
		s.Lines[i].Samples = samples.Trim(l.Samples, from)
	}
	s.Lines = slices.DeleteFunc(s.Lines, func(l api.Line) bool { return len(l.Samples) == 0 })
	return api.Answer{}
}

// samplesOf is those of a series: none, where it has no line.
func samplesOf(s *api.Shelf, series string) []api.Sample {
	at, ok := line(s, series)
	if !ok {
		return nil
	}
	return s.Lines[at].Samples
}

// line is where a series' line is, or would be, and whether it has one.
func line(s *api.Shelf, series string) (int, bool) {
	return slices.BinarySearchFunc(s.Lines, series, func(l api.Line, text string) int { return cmp.Compare(l.Series, text) })
}
