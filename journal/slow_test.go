package journal_test

import (
	"bytes"

	"windrose/api"
	"windrose/drum"
	"windrose/frame"
)

// slow is a journal by the chapter's words, that reckons all of them anew at each call, and writes sector by sector.
type slow struct {
	d      *drum.Drum
	second bool
	age    int
	l      []api.Data
}

func (s *slow) row() int { return rowOf(s.d.Sectors()) }

func (s *slow) left() int { return s.row() - len(framed(s.age, s.l...)) }

// begin is the first sector of a half.
func (s *slow) begin(second bool) int {
	if second {
		return s.d.Sectors() / 2
	}
	return 0
}

// put writes sectors, one by one.
func (s *slow) put(at int, b []byte) {
	b = filled(b)
	for i := 0; i < len(b); i += size {
		s.d.Write(at+i/size, b[i:i+size])
	}
}

// slowHead is what a half's head tells: it is one, if the head of these numbers has the same bytes.
func slowHead(d *drum.Drum, at int) (age, end int, ok bool) {
	b, _ := d.Read(at, 1)
	x, _, e := frame.First(b)
	if e != api.OK || len(x.Nums) < 3 {
		return 0, 0, false
	}
	age, end = x.Nums[1], x.Nums[2]
	if !bytes.Equal(filled(head(7, age, end)), b) || age <= 0 || age > oldest || end < 0 || end > rowOf(d.Sectors()) {
		return 0, 0, false
	}
	return age, end, true
}

func slowOpen(d *drum.Drum) (*slow, api.Errno) {
	half := d.Sectors() / 2
	g1, e1, ok1 := slowHead(d, 0)
	g2, e2, ok2 := slowHead(d, half)
	s := &slow{d: d, second: true}
	end := 0
	switch {
	case ok1 && (!ok2 || g1 >= g2):
		s.second, s.age, end = false, g1, e1
	case ok2:
		s.age, end = g2, e2
	}
	row, _ := d.Read(s.begin(s.second)+1, half-1)
	for at := 0; ; {
		x, n, e := frame.First(row[at:end])
		if e != api.OK || len(x.Texts) == 0 {
			break
		}
		x.Texts = x.Texts[1:]
		if !bytes.Equal(framed(s.age, x), row[at:at+n]) {
			break
		}
		s.l = append(s.l, x)
		at += n
	}
	if e := s.anew(s.l); e != api.OK {
		return nil, e
	}
	return s, api.OK
}

// mayBe tells whether data with an age may be.
func mayBe(x api.Data) bool {
	_, e := frame.Encode(api.Data{Nums: x.Nums, Texts: append([]string{"four"}, x.Texts...)})
	return e == api.OK
}

func (s *slow) append(x api.Data) api.Errno {
	if !mayBe(x) {
		return api.ErrLong
	}
	if len(framed(s.age, x)) > s.left() {
		return api.ErrFull
	}
	from := len(framed(s.age, s.l...)) / size
	s.l = append(s.l, x)
	s.put(s.begin(s.second)+1+from, framed(s.age, s.l...)[from*size:])
	return api.OK
}

func (s *slow) sync() {
	s.d.Sync()
	s.put(s.begin(s.second), head(7, s.age, len(framed(s.age, s.l...))))
	s.d.Sync()
}

func (s *slow) anew(l []api.Data) api.Errno {
	if s.age == oldest {
		return api.ErrFull
	}
	for _, x := range l {
		if !mayBe(x) {
			return api.ErrLong
		}
	}
	row := framed(s.age+1, l...)
	if len(row) > s.row() {
		return api.ErrFull
	}
	s.put(s.begin(!s.second)+1, row)
	s.d.Sync()
	s.put(s.begin(!s.second), head(7, s.age+1, len(row)))
	s.d.Sync()
	s.second, s.age, s.l = !s.second, s.age+1, append([]api.Data{}, l...)
	return api.OK
}
