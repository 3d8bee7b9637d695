package gorilla

import "windrose/api"

// Cursor goes over a chunk's samples.
type Cursor struct {
	rest []api.Sample // those that are not passed
}

// Open is a cursor ahead of the first sample.
func Open(c api.Chunk) *Cursor {
	l, _ := Samples(c) // none of a chunk that may not be
	return &Cursor{rest: l}
}

// Next is the next sample.
func (x *Cursor) Next() (api.Sample, bool) {
	if x == nil || len(x.rest) == 0 {
		return api.Sample{}, false
	}
	s := x.rest[0]
	x.rest = x.rest[1:]
	return s, true
}

// Skip is the next sample from a time on.
func (x *Cursor) Skip(t int) (api.Sample, bool) {
pass:
	s, ok := x.Next()
	if ok && s.T < t {
		goto pass
	}
	return s, ok
}
