package drum_test

import (
	"bytes"
	"fmt"
	"slices"
	"strings"
	"testing"

	"windrose/api"
	"windrose/drum"
)

const size = 64

// made is a drum, or the end of the test.
func made(t *testing.T, sectors int) *drum.Drum {
	t.Helper()
	d, e := drum.New(sectors)
	if e != api.OK || d == nil {
		t.Fatalf("New(%d): %v, error %d", sectors, d, e)
	}
	return d
}

// page is a sector's bytes of a number above 0: no two of them have one byte alike at one place, so that halves of two make none.
func page(x int) []byte {
	b := make([]byte, size)
	for i := range b {
		b[i] = byte(x + 37*i)
	}
	return b
}

// noughts is a sector to which nothing was written.
func noughts() []byte { return make([]byte, size) }

// pages are sectors' bytes, one behind the other; 0 is one of noughts.
func pages(l ...int) []byte {
	var b []byte
	for _, x := range l {
		if x == 0 {
			b = append(b, noughts()...)
		} else {
			b = append(b, page(x)...)
		}
	}
	return b
}

// number is the number of a sector's bytes: 0, if they are noughts; -1, if they are not such as page makes.
func number(b []byte) int {
	if bytes.Equal(b, noughts()) {
		return 0
	}
	if x := int(b[0]); bytes.Equal(b, page(x)) {
		return x
	}
	return -1
}

// numbers are those of all sectors of a drum.
func numbers(t *testing.T, d *drum.Drum) []int {
	t.Helper()
	b, e := d.Read(0, d.Sectors())
	if e != api.OK || len(b) != d.Sectors()*size {
		t.Fatalf("Read of all %d sectors: %d bytes, error %d", d.Sectors(), len(b), e)
	}
	var l []int
	for p := range slices.Chunk(b, size) {
		l = append(l, number(p))
	}
	return l
}

// write writes pages, or it is the end of the test.
func write(t *testing.T, d *drum.Drum, at int, l ...int) {
	t.Helper()
	if e := d.Write(at, pages(l...)); e != api.OK {
		t.Fatalf("Write of %v at %d: error %d", l, at, e)
	}
}

// state is all that can be told of a drum without changing it, as a text.
func state(t *testing.T, d *drum.Drum) string {
	t.Helper()
	return fmt.Sprint(d.Sectors(), d.Pending(), d.Gone(), numbers(t, d))
}

// want holds a drum's first sectors, what is pending, and whether the power is gone, against what they must be.
func want(t *testing.T, d *drum.Drum, what string, pending int, gone bool, first ...int) {
	t.Helper()
	must := slices.Concat(first, make([]int, d.Sectors()-len(first)))
	if got := numbers(t, d); !slices.Equal(got, must) {
		t.Errorf("%s: seen %v, want %v", what, got, must)
	}
	if d.Pending() != pending {
		t.Errorf("%s: Pending %d, want %d", what, d.Pending(), pending)
	}
	if d.Gone() != gone {
		t.Errorf("%s: Gone %v, want %v", what, d.Gone(), gone)
	}
}

// pattern is what a text of y and n says.
func pattern(s string) []bool {
	var l []bool
	for _, r := range s {
		l = append(l, r == 'y')
	}
	return l
}

// allPatterns are all of a length.
func allPatterns(n int) []string {
	var l []string
	for x := range 1 << n {
		l = append(l, strings.NewReplacer("0", "n", "1", "y").Replace(fmt.Sprintf("%0*b", n, x)))
	}
	return l
}

// chance is a row of numbers without a pattern, the same in each run.
type chance uint64

func (c *chance) next() uint64 {
	x := uint64(*c)
	x ^= x << 13
	x ^= x >> 7
	x ^= x << 17
	*c = chance(x)
	return x
}

func (c *chance) below(n int) int { return int(c.next() >> 33 % uint64(n)) }

// one is one of a list.
func one[T any](c *chance, l ...T) T { return l[c.below(len(l))] }
