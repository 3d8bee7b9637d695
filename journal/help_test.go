package journal_test

import (
	"bytes"
	"encoding/hex"
	"fmt"
	"slices"
	"strings"
	"testing"

	"windrose/api"
	"windrose/drum"
	"windrose/frame"
	"windrose/journal"
)

const (
	size   = 64
	oldest = 1<<31 - 1
)

// made is a drum, or the end of the test.
func made(t *testing.T, sectors int) *drum.Drum {
	t.Helper()
	d, e := drum.New(sectors)
	if e != api.OK {
		t.Fatalf("New(%d): error %d", sectors, e)
	}
	return d
}

// laid is a drum on which those bytes stand, synced.
func laid(t *testing.T, b []byte) *drum.Drum {
	t.Helper()
	d := made(t, len(b)/size)
	if e := d.Write(0, b); e != api.OK {
		t.Fatalf("Write of %d bytes: error %d", len(b), e)
	}
	d.Sync()
	return d
}

// opened is a drum's journal, or the end of the test.
func opened(t *testing.T, d *drum.Drum) *journal.Journal {
	t.Helper()
	j, e := journal.Open(d)
	if e != api.OK || j == nil {
		t.Fatalf("Open: %v, error %d", j != nil, e)
	}
	return j
}

// image is all of a drum's bytes, as they are seen.
func image(t *testing.T, d *drum.Drum) []byte {
	t.Helper()
	b, e := d.Read(0, d.Sectors())
	if e != api.OK {
		t.Fatalf("Read of all %d sectors: error %d", d.Sectors(), e)
	}
	return b
}

// framed is the frames of data, of an age.
func framed(age int, l ...api.Data) []byte {
	var b []byte
	for _, x := range l {
		mark := string([]byte{byte(age >> 24), byte(age >> 16), byte(age >> 8), byte(age)})
		b = append(b, bare(api.Data{Nums: x.Nums, Texts: append([]string{mark}, x.Texts...)})...)
	}
	return b
}

// bare is data's frame, without an age.
func bare(x api.Data) []byte {
	f, e := frame.Frame(x)
	if e != api.OK {
		panic(fmt.Sprintf("no frame: error %d", e))
	}
	return f
}

// head is the frame of a head's numbers.
func head(l ...int) []byte { return bare(api.Data{Nums: l}) }

// filled is bytes, and noughts to the end of their last sector.
func filled(b []byte) []byte {
	l := slices.Clone(b)
	for len(l)%size != 0 {
		l = append(l, 0)
	}
	return l
}

// disk is the bytes of a drum of so many sectors: the heads and rows of both halves, each with noughts behind.
func disk(sectors int, head1, row1, head2, row2 []byte) []byte {
	b := make([]byte, sectors*size)
	half := len(b) / 2
	copy(b[:size], head1)
	copy(b[size:half], row1)
	copy(b[half:half+size], head2)
	copy(b[half+size:], row2)
	return b
}

// rowOf is how many bytes a half's row has.
func rowOf(sectors int) int { return (sectors/2 - 1) * size }

// num is data of one number.
func num(n int) api.Data { return api.Data{Nums: []int{n}} }

// long is data whose frame, with an age, has so many bytes (12 to 4102; there is none of 133).
func long(n int) api.Data {
	if n == 12 {
		return api.Data{}
	}
	for k := max(0, n-18); k <= n-13; k++ {
		for nums := range 2 {
			x := api.Data{Nums: make([]int, nums), Texts: []string{strings.Repeat("x", k)}}
			if len(framed(1, x)) == n {
				return x
			}
		}
	}
	panic(fmt.Sprintf("no data of %d bytes", n))
}

// many is data whose frames, with an age, have so many bytes in all (12 at least).
func many(n int) []api.Data {
	var l []api.Data
	for n > 160 {
		k := min(n-40, 4000)
		l, n = append(l, long(k)), n-k
	}
	for n > 120 {
		l, n = append(l, long(40)), n-40
	}
	return append(l, long(n))
}

// unhex is the bytes of a text.
func unhex(t *testing.T, s string) []byte {
	t.Helper()
	b, err := hex.DecodeString(strings.ReplaceAll(s, " ", ""))
	if err != nil {
		t.Fatal(err)
	}
	return b
}

func same(a, b []api.Data) bool { return slices.EqualFunc(a, b, frame.Same) }

// short is data as a text that can be read.
func short(l []api.Data) string {
	s := fmt.Sprintf("%+q", fmt.Sprint(l))
	if len(s) > 200 {
		return fmt.Sprintf("%d data, %s..", len(l), s[:200])
	}
	return s
}

// want holds a journal's records, and what is left of its row, against what they must be.
func want(t *testing.T, j *journal.Journal, what string, left int, l ...api.Data) {
	t.Helper()
	if got := j.Records(); !same(got, l) {
		t.Errorf("%s: Records %s, want %s", what, short(got), short(l))
	}
	if j.Left() != left {
		t.Errorf("%s: Left %d, want %d", what, j.Left(), left)
	}
}

// wantImage holds a drum's bytes against what they must be, and tells the first sector that is another one.
func wantImage(t *testing.T, d *drum.Drum, what string, must []byte) {
	t.Helper()
	got := image(t, d)
	if len(got) != len(must) {
		t.Fatalf("%s: %d bytes, want %d", what, len(got), len(must))
	}
	for i := 0; i < len(got); i += size {
		if !bytes.Equal(got[i:i+size], must[i:i+size]) {
			t.Errorf("%s: sector %d is\n%x, want\n%x", what, i/size, got[i:i+size], must[i:i+size])
			return
		}
	}
}

// wantError holds a call's error against what it must be.
func wantError(t *testing.T, what string, got, must api.Errno) {
	t.Helper()
	if got != must {
		t.Errorf("%s: error %d, want %d", what, got, must)
	}
}

// add appends data, or it is the end of the test.
func add(t *testing.T, j *journal.Journal, l ...api.Data) {
	t.Helper()
	for _, x := range l {
		if e := j.Append(x); e != api.OK {
			t.Fatalf("Append of %s: error %d", short([]api.Data{x}), e)
		}
	}
}

// anew begins anew, or it is the end of the test.
func anew(t *testing.T, j *journal.Journal, l ...api.Data) {
	t.Helper()
	if e := j.Anew(l); e != api.OK {
		t.Fatalf("Anew of %s: error %d", short(l), e)
	}
}

// patterns are all up to a length, and the empty one.
func patterns(most int) [][]bool {
	l := [][]bool{nil}
	for n := 1; n <= most; n++ {
		for x := range 1 << n {
			p := make([]bool, n)
			for i := range p {
				p[i] = x>>i&1 == 1
			}
			l = append(l, p)
		}
	}
	return l
}

// chance is a row of numbers without a pattern, the same in each run.
type chance uint64

func (c *chance) next() uint64 {
	x := uint64(*c)
	x ^= x << 13
	x ^= x >> 7
	x ^= x << 17
	*c = chance(x)
	return x
}

func (c *chance) below(n int) int { return int(c.next() >> 33 % uint64(n)) }

// one is one of a list.
func one[T any](c *chance, l ...T) T { return l[c.below(len(l))] }

func (c *chance) pattern() []bool {
	p := make([]bool, c.below(7))
	for i := range p {
		p[i] = c.below(2) == 1
	}
	return p
}

func (c *chance) bytes(n int) []byte {
	b := make([]byte, n)
	for i := range b {
		b[i] = byte(c.next() >> 20)
	}
	return b
}

// data is some, of a few bytes up to some hundred.
func (c *chance) data() api.Data {
	var x api.Data
	for range c.below(4) {
		x.Nums = append(x.Nums, int(c.next())>>c.below(64))
	}
	for range c.below(3) {
		x.Texts = append(x.Texts, string(c.bytes(one(c, 0, 1, 4, 30, 100))))
	}
	return x
}
