package bits

import "windrose/api"

// Reader reads bits.
type Reader struct {
	bits api.Bits // its own
	at   int      // 0 to N
}

// Read is a reader.
func Read(x api.Bits) *Reader {
	if Check(x) != api.OK {
		return &Reader{}
	}
	return &Reader{bits: longer(x, 0)}
}

// At is where it stands.
func (r *Reader) At() int {
	if r == nil {
		return 0
	}
	return r.at
}

// Left is how many bits are behind.
func (r *Reader) Left() int {
	if r == nil {
		return 0
	}
	return r.bits.N - r.at
}

// Take takes some bits, as a number.
func (r *Reader) Take(n int) (uint64, api.Errno) {
	if !isWord(n) {
		return 0, api.ErrArg
	}
	if n > r.Left() {
		return 0, api.ErrText
	}
	if n == 0 { // there are so many at nobody's reader, too
		return 0, api.OK
	}
	u := word(r.bits.B, r.at, n)
	r.at += n
	return u, api.OK
}

// Number takes a number by its class.
func (r *Reader) Number() (int, api.Errno) {
	if r == nil {
		return 0, api.ErrText
	}
	n, size, ok := numberAt(r.bits, r.at)
	if !ok {
		return 0, api.ErrText
	}
	r.at += size
	return n, api.OK
}

// Seek goes to a bit.
func (r *Reader) Seek(at int) api.Errno {
	if r == nil || at < 0 || at > r.bits.N {
		return api.ErrArg
	}
	r.at = at
	return api.OK
}
