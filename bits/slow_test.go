package bits_test

import (
	"fmt"
	"math/big"
	"strings"

	"windrose/api"
)

// slowMay tells whether bits may be, by the chapter's words.
func slowMay(x api.Bits) bool {
	if x.N < 0 || x.N > most {
		return false
	}
	needs := 0
	for 8*needs < x.N {
		needs++
	}
	if len(x.B) != needs {
		return false
	}
	if needs == 0 {
		return true
	}
	last := fmt.Sprintf("%08b", x.B[needs-1])
	return !strings.Contains(last[8-(8*needs-x.N):], "1")
}

// slowThere tells whether the n bits from at on are there, one by one. (A place behind the greatest int is below 0.)
func slowThere(x api.Bits, at, n int) bool {
	for i := range n {
		if at+i < 0 || at+i >= x.N {
			return false
		}
	}
	return n >= 0
}

// value is a text of noughts and ones as a number.
func value(s string) uint64 {
	u := new(big.Int)
	for _, sign := range s {
		u.Lsh(u, 1)
		u.Add(u, big.NewInt(int64(sign-'0')))
	}
	return u.Uint64()
}

// digits is a number as a text of n noughts and ones; false: it has more.
func digits(u *big.Int, n int) (string, bool) {
	s := u.Text(2)
	if u.Sign() == 0 {
		s = ""
	}
	if len(s) > n {
		return "", false
	}
	return strings.Repeat("0", n-len(s)) + s, true
}

// slowGet is Get, by the chapter's words.
func slowGet(x api.Bits, at, n int) (uint64, api.Errno) {
	if !slowMay(x) || n < 0 || n > 64 || !slowThere(x, at, n) {
		return 0, api.ErrArg
	}
	if n == 0 {
		return 0, api.OK
	}
	return value(text(x)[at : at+n]), api.OK
}

// slowCut is Cut, by the chapter's words.
func slowCut(x api.Bits, at, n int) (api.Bits, api.Errno) {
	if !slowMay(x) {
		return api.Bits{}, api.ErrArg
	}
	if !slowThere(x, at, n) {
		return x, api.ErrArg
	}
	if n == 0 {
		return api.Bits{}, api.OK
	}
	return of(text(x)[at : at+n]), api.OK
}

// slowBehind is bits, and those of a text behind.
func slowBehind(x api.Bits, s string) (api.Bits, api.Errno) {
	if x.N+len(s) > most {
		return x, api.ErrFull
	}
	return of(text(x) + s), api.OK
}

// slowPut is Put, by the chapter's words.
func slowPut(x api.Bits, u uint64, n int) (api.Bits, api.Errno) {
	if !slowMay(x) {
		return api.Bits{}, api.ErrArg
	}
	if n < 0 || n > 64 {
		return x, api.ErrArg
	}
	s, ok := digits(new(big.Int).SetUint64(u), n)
	if !ok {
		return x, api.ErrArg
	}
	return slowBehind(x, s)
}

// slowNumber is Number, by the chapter's words.
func slowNumber(x api.Bits, n int) (api.Bits, api.Errno) {
	if !slowMay(x) {
		return api.Bits{}, api.ErrArg
	}
	return slowBehind(x, slowSigns(n))
}

// slowJoin is Join, by the chapter's words.
func slowJoin(a, b api.Bits) (api.Bits, api.Errno) {
	if !slowMay(a) || !slowMay(b) {
		return api.Bits{}, api.ErrArg
	}
	return slowBehind(a, text(b))
}

// slowCount is Count, by the chapter's words.
func slowCount(x api.Bits) int {
	if !slowMay(x) {
		return 0
	}
	return strings.Count(text(x), "1")
}

// slowU is the u of a number, in big numbers.
func slowU(n int) *big.Int {
	u := new(big.Int).Mul(big.NewInt(int64(n)), big.NewInt(2))
	if n < 0 {
		u.Neg(u)
		u.Sub(u, big.NewInt(1))
	}
	return u
}

// slowClass is Class, by the chapter's words.
func slowClass(n int) int {
	u := slowU(n)
	switch {
	case u.Sign() == 0:
		return 0
	case u.Cmp(big.NewInt(128)) < 0:
		return 1
	case u.Cmp(big.NewInt(4096)) < 0:
		return 2
	case u.Cmp(big.NewInt(1048576)) < 0:
		return 3
	}
	return 4
}

// heads and widths are the classes' first bits, and how many u has.
func heads() []string { return []string{"0", "10", "110", "1110", "1111"} }

func widths() []int { return []int{0, 7, 12, 20, 64} }

// slowSigns are a number's bits by its class.
func slowSigns(n int) string { return slowOfClass(slowClass(n), slowU(n)) }

// slowOfClass are the bits of u in that class, be it the least one or not.
func slowOfClass(class int, u *big.Int) string {
	s, ok := digits(u, widths()[class])
	if !ok {
		panic("u is too great for that class")
	}
	return heads()[class] + s
}

// slowReader is a reader, by the chapter's words: a text, and where it stands.
type slowReader struct {
	signs string
	at    int
}

func slowRead(x api.Bits) *slowReader {
	if !slowMay(x) {
		return &slowReader{}
	}
	return &slowReader{signs: text(x)}
}

func (r *slowReader) left() int { return len(r.signs) - r.at }

func (r *slowReader) take(n int) (uint64, api.Errno) {
	if n < 0 || n > 64 {
		return 0, api.ErrArg
	}
	if n > r.left() {
		return 0, api.ErrText
	}
	r.at += n
	return value(r.signs[r.at-n : r.at]), api.OK
}

func (r *slowReader) number() (int, api.Errno) {
	rest := r.signs[r.at:]
	for class, head := range heads() {
		size := len(head) + widths()[class]
		if !strings.HasPrefix(rest, head) || len(rest) < size {
			continue
		}
		u := value(rest[len(head):size])
		n := int(u / 2)
		if u%2 == 1 {
			n = -n - 1
		}
		if slowClass(n) == class {
			r.at += size
			return n, api.OK
		}
	}
	return 0, api.ErrText
}

func (r *slowReader) seek(at int) api.Errno {
	if at < 0 || at > len(r.signs) {
		return api.ErrArg
	}
	r.at = at
	return api.OK
}
