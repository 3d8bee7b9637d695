package frame_test

import (
	"bytes"
	"encoding/hex"
	"fmt"
	"math"
	"math/big"
	"slices"
	"strings"
	"testing"

	"windrose/api"
	"windrose/frame"
)

// slowSum goes bit by bit, as the chapter's words say it.
func slowSum(b []byte) uint32 {
	register := [32]bool{}
	for i := range register {
		register[i] = true
	}
	for _, c := range b {
		for k := 7; k >= 0; k-- {
			bit := c>>k&1 == 1
			out := register[31]
			copy(register[1:], register[:31])
			register[0] = false
			if out != bit {
				for i := range register {
					register[i] = register[i] != (0x741B8CD7>>i&1 == 1)
				}
			}
		}
	}
	var sum uint32
	for i, set := range register {
		if set {
			sum |= 1 << i
		}
	}
	return sum
}

// slowCount divides big numbers, so that nothing can run over.
func slowCount(n *big.Int) []byte {
	n = new(big.Int).Set(n)
	b := []byte{}
	for {
		low := new(big.Int)
		n.DivMod(n, big.NewInt(128), low)
		if n.Sign() == 0 {
			return append(b, byte(low.Int64()))
		}
		b = append(b, byte(low.Int64()+128))
	}
}

func slowNumber(n int) []byte {
	twice := big.NewInt(int64(n))
	if n >= 0 {
		return slowCount(twice.Mul(twice, big.NewInt(2)))
	}
	twice.Mul(twice, big.NewInt(-2))
	return slowCount(twice.Sub(twice, big.NewInt(1)))
}

// slowBytes is data's bytes, however many they are.
func slowBytes(d api.Data) []byte {
	b := slowCount(big.NewInt(int64(len(d.Nums))))
	for _, n := range d.Nums {
		b = append(b, slowNumber(n)...)
	}
	b = append(b, slowCount(big.NewInt(int64(len(d.Texts))))...)
	for _, s := range d.Texts {
		b = append(b, slowCount(big.NewInt(int64(len(s))))...)
		b = append(b, s...)
	}
	return b
}

// framed lays a count ahead of bytes and their sum behind them, whether they are data's or not.
func framed(b []byte) []byte {
	sum := slowSum(b)
	f := slowCount(big.NewInt(int64(len(b))))
	f = append(f, b...)
	return append(f, byte(sum>>24), byte(sum>>16), byte(sum>>8), byte(sum))
}

func slowFrame(d api.Data) []byte { return framed(slowBytes(d)) }

func unhex(t *testing.T, s string) []byte {
	t.Helper()
	b, err := hex.DecodeString(strings.ReplaceAll(s, " ", ""))
	if err != nil {
		t.Fatal(err)
	}
	return b
}

// chance is a row of numbers without a pattern, the same in each run.
type chance uint64

func (c *chance) next() uint64 {
	x := uint64(*c)
	x ^= x << 13
	x ^= x >> 7
	x ^= x << 17
	*c = chance(x)
	return x
}

func (c *chance) below(n int) int { return int(c.next() >> 33 % uint64(n)) }

func (c *chance) bytes(n int) []byte {
	b := make([]byte, n)
	for i := range b {
		b[i] = byte(c.next() >> 24)
	}
	return b
}

func (c *chance) data() api.Data {
	d := api.Data{}
	for range c.below(6) {
		d.Nums = append(d.Nums, int(c.next())>>c.below(64))
	}
	for range c.below(4) {
		d.Texts = append(d.Texts, string(c.bytes(c.below(200))))
	}
	return d
}

// numbers are edges of a count's bytes and of 64 bits, above and below 0.
func numbers() []int {
	l := []int{0, 1, -1, 2, -2, 5, math.MaxInt, math.MaxInt - 1, math.MinInt, math.MinInt + 1, api.MaxFrame, api.MaxCount}
	for i := range 63 {
		bit := 1 << i
		l = append(l, bit, bit-1, bit+1, -bit, -bit-1, 1-bit)
	}
	c := chance(88172645463325252)
	for range 300 {
		l = append(l, int(c.next()), int(c.next())>>c.below(64))
	}
	return l
}

// some is data of all kinds, all of which may be.
func some() []api.Data {
	l := []api.Data{
		{},
		{Nums: []int{0}},
		{Texts: []string{""}},
		{Texts: []string{"", "", ""}},
		{Nums: []int{5}, Texts: []string{"a"}},
		{Nums: []int{-1, 0, 1}},
		{Nums: []int{math.MinInt, math.MaxInt, math.MinInt + 1}},
		{Texts: []string{"\x00", "\xff\xfe", "größe", "\n"}},
		{Nums: make([]int, 127)},
		{Nums: make([]int, 128)},
		{Texts: make([]string, 127)},
		{Texts: make([]string, 128)},
		{Texts: []string{strings.Repeat("x", 127), strings.Repeat("y", 128)}},
	}
	c := chance(2463534242)
	for range 100 {
		l = append(l, c.data())
	}
	return l
}

// full is data of just 4096 bytes, by numbers, by texts, and by both.
func full() []api.Data {
	return []api.Data{
		{Nums: make([]int, 4093)},
		{Texts: make([]string, 4093)},
		{Texts: []string{strings.Repeat("x", 4092)}},
		{Nums: []int{7, -7}, Texts: []string{strings.Repeat("x", 4090)}},
		{Nums: append(make([]int, 2000), 1<<40), Texts: append(make([]string, 100), strings.Repeat("z", 1985))},
		{Nums: make([]int, 4092), Texts: []string{""}},
	}
}

// over is data of more than 4096 bytes; the first ones of just one more.
func over() []api.Data {
	long := strings.Repeat("x", 1<<20)
	return []api.Data{
		{Nums: make([]int, 4094)},
		{Texts: make([]string, 4094)},
		{Texts: []string{strings.Repeat("x", 4093)}},
		{Nums: []int{7, -7}, Texts: []string{strings.Repeat("x", 4091)}},
		{Nums: append(make([]int, 2000), 1<<40), Texts: append(make([]string, 100), strings.Repeat("z", 1986))},
		{Nums: make([]int, 4093), Texts: []string{""}},
		{Nums: make([]int, 4095)},
		{Nums: make([]int, 4096)},
		{Texts: []string{long}},
		{Texts: []string{"a", long, long}},
		{Texts: []string{strings.Repeat("x", 4094)}},
		{Texts: []string{strings.Repeat("x", 4096)}},
		{Nums: make([]int, 1<<20)},
		{Texts: make([]string, 1<<20)},
		{Nums: slices.Repeat([]int{math.MinInt}, 410)},
	}
}

// short is data as a fault tells it: full ones would fill the screen.
func short(d api.Data) string {
	s := fmt.Sprintf("%d%q", d.Nums, d.Texts)
	return s[:min(len(s), 200)]
}

func blank(d api.Data) bool { return len(d.Nums) == 0 && len(d.Texts) == 0 }

func TestSumKnown(t *testing.T) {
	for _, c := range []struct {
		s    string
		want uint32
	}{
		{"", 0xffffffff},
		{"\x00", 0xb1cbb503},
		{"a", 0xa58fe40f},
		{"b", 0x39a37176},
		{"123456789", 0x2eb14879},
		{"\x00\x00", 0x66af0e38},
		{"\x00\x00\x00\x00", 0xdc4cc210},
		{"\xff\xff\xff\xff", 0},
		{"\xff\xff\xff\xff\x00", 0},
		{"\x01\x0a\x01\x01a", 0x3d5326ff},
	} {
		if got := frame.Sum([]byte(c.s)); got != c.want {
			t.Errorf("Sum(%q) = %08x, not %08x", c.s, got, c.want)
		}
	}
	if frame.Sum(nil) != 0xffffffff {
		t.Error("Sum of nil")
	}
}

func TestSumSlow(t *testing.T) {
	c := chance(99)
	for n := range 200 {
		b := c.bytes(n)
		if got, want := frame.Sum(b), slowSum(b); got != want {
			t.Fatalf("Sum(%x) = %08x, not %08x", b, got, want)
		}
	}
	for i := range 256 {
		if b := []byte{byte(i)}; frame.Sum(b) != slowSum(b) {
			t.Errorf("Sum(%x)", b)
		}
	}
}

func TestCountKnown(t *testing.T) {
	for _, c := range []struct {
		n    int
		want string
	}{
		{0, "00"}, {1, "01"}, {127, "7f"}, {128, "8001"}, {129, "8101"}, {255, "ff01"},
		{4095, "ff1f"}, {4096, "8020"}, {16383, "ff7f"}, {16384, "808001"},
		{2097151, "ffff7f"}, {2097152, "80808001"}, {1<<31 - 1, "ffffffff07"},
		{1 << 62, "808080808080808040"}, {math.MaxInt, "ffffffffffffffff7f"},
		{-1, ""}, {-128, ""}, {math.MinInt, ""}, {math.MinInt + 1, ""},
	} {
		if got := hex.EncodeToString(frame.Count(c.n)); got != c.want {
			t.Errorf("Count(%d) = %s, not %s", c.n, got, c.want)
		}
	}
}

func TestNumberKnown(t *testing.T) {
	for _, c := range []struct {
		n    int
		want string
	}{
		{0, "00"}, {-1, "01"}, {1, "02"}, {-2, "03"}, {5, "0a"}, {63, "7e"}, {-64, "7f"},
		{64, "8001"}, {-65, "8101"}, {8191, "fe7f"}, {-8192, "ff7f"}, {8192, "808001"}, {-8193, "818001"},
		{1 << 31, "8080808010"},
		{1<<62 - 1, "feffffffffffffff7f"}, {-1 << 62, "ffffffffffffffff7f"},
		{1 << 62, "80808080808080808001"}, {-1<<62 - 1, "81808080808080808001"},
		{math.MaxInt, "feffffffffffffffff01"}, {math.MinInt, "ffffffffffffffffff01"},
		{math.MinInt + 1, "fdffffffffffffffff01"},
	} {
		if got := hex.EncodeToString(frame.Number(c.n)); got != c.want {
			t.Errorf("Number(%d) = %s, not %s", c.n, got, c.want)
		}
	}
}

func TestCountAndNumberSlow(t *testing.T) {
	for _, n := range numbers() {
		if got, want := frame.Number(n), slowNumber(n); !bytes.Equal(got, want) {
			t.Errorf("Number(%d) = %x, not %x", n, got, want)
		}
		var want []byte
		if n >= 0 {
			want = slowCount(big.NewInt(int64(n)))
		}
		if got := frame.Count(n); !bytes.Equal(got, want) {
			t.Errorf("Count(%d) = %x, not %x", n, got, want)
		}
	}
}

func TestEncodeKnown(t *testing.T) {
	for _, c := range []struct {
		d    api.Data
		want string
	}{
		{api.Data{}, "00 00"},
		{api.Data{Nums: []int{}, Texts: []string{}}, "00 00"},
		{api.Data{Nums: []int{5}, Texts: []string{"a"}}, "01 0a 01 01 61"},
		{api.Data{Nums: []int{-1, 64}}, "02 01 8001 00"},
		{api.Data{Texts: []string{"", "ab"}}, "00 02 00 02 6162"},
		{api.Data{Nums: []int{math.MinInt}}, "01 ffffffffffffffffff01 00"},
	} {
		b, e := frame.Encode(c.d)
		if e != api.OK || !bytes.Equal(b, unhex(t, c.want)) {
			t.Errorf("Encode(%v) = %x, %d, not %s", c.d, b, e, c.want)
		}
		d, e := frame.Decode(unhex(t, c.want))
		if e != api.OK || !frame.Same(d, c.d) {
			t.Errorf("Decode(%s) = %v, %d, not %v", c.want, d, e, c.d)
		}
	}
}

func TestEncodeSlow(t *testing.T) {
	for _, d := range slices.Concat(some(), full()) {
		if b, e := frame.Encode(d); e != api.OK || !bytes.Equal(b, slowBytes(d)) {
			t.Fatalf("Encode(%s) = %d bytes, %d", short(d), len(b), e)
		}
	}
}

func TestEncodeAtTheLimit(t *testing.T) {
	for i, d := range full() {
		b, e := frame.Encode(d)
		if e != api.OK || len(b) != 4096 {
			t.Errorf("full %d: %d bytes, %d", i, len(b), e)
		}
	}
	for i, d := range over() {
		if i < 6 && len(slowBytes(d)) != 4097 {
			t.Errorf("over %d: the test's data have %d bytes", i, len(slowBytes(d)))
		}
		if b, e := frame.Encode(d); e != api.ErrLong || len(b) != 0 {
			t.Errorf("over %d: Encode: %d bytes, %d", i, len(b), e)
		}
		if b, e := frame.Frame(d); e != api.ErrLong || len(b) != 0 {
			t.Errorf("over %d: Frame: %d bytes, %d", i, len(b), e)
		}
	}
}

func TestDecodeOfEncode(t *testing.T) {
	for _, d := range slices.Concat(some(), full()) {
		b, _ := frame.Encode(d)
		got, e := frame.Decode(b)
		if e != api.OK || !slices.Equal(got.Nums, d.Nums) || !slices.Equal(got.Texts, d.Texts) {
			t.Fatalf("Decode of %d bytes = %s, %d, not %s", len(b), short(got), e, short(d))
		}
	}
	for _, n := range numbers() {
		b, _ := frame.Encode(api.Data{Nums: []int{n}})
		if got, e := frame.Decode(b); e != api.OK || !slices.Equal(got.Nums, []int{n}) {
			t.Fatalf("Decode(%x) = %v, %d, not %d", b, got, e, n)
		}
	}
}

func TestDecodeWrong(t *testing.T) {
	for _, s := range []string{
		"", "00", "80", "ff", "01", "01 0a", "01 0a 01", "01 0a 01 01", "01 0a 01 02 61",
		// Something is behind the data.
		"00 00 00", "01 0a 01 01 61 00", "00 01 00 00",
		// More bytes than there need be: of how many, of a number, of a text's length.
		"80 00 00", "00 80 00", "81 00 0a 00", "01 80 00 00", "01 8a 00 00", "00 01 80 00", "00 01 81 00 61", "00 81 00 00",
		"80 80 00 00", "01 ff 80 00 00", "01 ffffffffffffffff 80 00 00",
		// A number of more than 64 bits, or of more than ten bytes.
		"01 ffffffffffffffffff02 00", "01 ffffffffffffffffff7f 00", "01 ffffffffffffffffff81 00 00",
		"01 80808080808080808080 01 00", "01 80808080808080808002 00", "01 ffffffffffffffffff03 00",
		"01 ffffffffffffffffffffffffffffffff01 00",
		// Fewer things than are counted, and far fewer.
		"02 0a 00", "03 0a 00", "00 02 00", "00 03 00 00", "00 05 00 00", "00 01 05 61626364",
		"ffffffff07 00", "ffffffffffffffff7f 00", "00 ffffffffffffffff7f", "00 01 ffffffffffffffff7f 61",
		"ffffffffffffffffff01 00", "00 ffffffffffffffffff01", "00 01 ffffffffffffffffff01 61",
		"80808080808080808001 00", "00 80808080808080808001 00", "00 01 80808080808080808001 61",
	} {
		if d, e := frame.Decode(unhex(t, s)); e != api.ErrText || !blank(d) {
			t.Errorf("Decode(%s) = %v, %d", s, d, e)
		}
	}
}

func TestDecodeLong(t *testing.T) {
	for i, d := range full() {
		b := slowBytes(d)
		if got, e := frame.Decode(b); e != api.OK || !frame.Same(got, d) {
			t.Errorf("full %d: %d", i, e)
		}
		if got, e := frame.Decode(append(b, 0)); e != api.ErrLong || !blank(got) {
			t.Errorf("full %d and a byte: %d", i, e)
		}
		if got, e := frame.Decode(b[:len(b)-1]); e != api.ErrText || !blank(got) {
			t.Errorf("full %d but a byte: %d", i, e)
		}
	}
	for i, d := range over() {
		if got, e := frame.Decode(slowBytes(d)); e != api.ErrLong || !blank(got) {
			t.Errorf("over %d: %d", i, e)
		}
	}
	// What is too long is not looked at.
	if _, e := frame.Decode(bytes.Repeat([]byte{0xff}, 4097)); e != api.ErrLong {
		t.Errorf("4097 bytes that are no data's: %d", e)
	}
	if _, e := frame.Decode(bytes.Repeat([]byte{0xff}, 4096)); e != api.ErrText {
		t.Errorf("4096 bytes that are no data's: %d", e)
	}
}

// TestDecodeAll: of all bytes that Decode takes, Encode makes the same ones again: each data has one row of bytes.
func TestDecodeAll(t *testing.T) {
	check := func(b []byte) {
		d, e := frame.Decode(b)
		if e != api.OK {
			if e != api.ErrText || !blank(d) {
				t.Fatalf("Decode(%x) = %v, %d", b, d, e)
			}
			return
		}
		if !bytes.Equal(slowBytes(d), b) {
			t.Fatalf("Decode(%x) = %v", b, d)
		}
	}
	for i := range 1 << 16 {
		check([]byte{byte(i >> 8), byte(i)})
		check([]byte{1, byte(i >> 8), byte(i), 0})
		check([]byte{0, 1, byte(i >> 8), byte(i)})
	}
	c := chance(7)
	small := []byte{0, 0, 1, 1, 2, 3, 0x7f, 0x80, 0x81, 0xff}
	for range 200000 {
		b := make([]byte, c.below(9))
		for i := range b {
			b[i] = small[c.below(len(small))]
		}
		check(b)
	}
}

func TestSame(t *testing.T) {
	l := some()[:13]
	for i, a := range l {
		for j, b := range l {
			if frame.Same(a, b) != (i == j) {
				t.Errorf("Same(%s, %s)", short(a), short(b))
			}
		}
		if !frame.Same(a, api.Data{Nums: slices.Clone(a.Nums), Texts: slices.Clone(a.Texts)}) {
			t.Errorf("Same of %s and a copy", short(a))
		}
	}
	base := api.Data{Nums: []int{1, 2}, Texts: []string{"a", "b"}}
	for _, d := range []api.Data{
		{Nums: []int{2, 1}, Texts: []string{"a", "b"}},
		{Nums: []int{1}, Texts: []string{"a", "b"}},
		{Nums: []int{1, 2, 3}, Texts: []string{"a", "b"}},
		{Nums: []int{1, 2}, Texts: []string{"b", "a"}},
		{Nums: []int{1, 2}, Texts: []string{"a"}},
		{Nums: []int{1, 2}, Texts: []string{"a", "b", ""}},
		{Nums: []int{1, 2}, Texts: []string{"a", "B"}},
		{Nums: []int{1, 2}, Texts: []string{"ab", ""}},
		{Nums: []int{1, 2}},
		{Texts: []string{"a", "b"}},
	} {
		if frame.Same(base, d) || frame.Same(d, base) {
			t.Errorf("Same(%v, %v)", base, d)
		}
	}
	if !frame.Same(api.Data{}, api.Data{Nums: []int{}, Texts: []string{}}) || !frame.Same(api.Data{Nums: []int{}}, api.Data{}) {
		t.Error("Same of nil and the empty list")
	}
	// Not frames alone are compared: data that may not be are alike, too.
	for i, d := range over() {
		if !frame.Same(d, d) || frame.Same(d, api.Data{}) {
			t.Errorf("Same of over %d", i)
		}
	}
}

func TestFrameKnown(t *testing.T) {
	for _, c := range []struct {
		d    api.Data
		want string
	}{
		{api.Data{}, "02 0000 66af0e38"},
		{api.Data{Nums: []int{5}, Texts: []string{"a"}}, "05 010a010161 3d5326ff"},
	} {
		want := unhex(t, c.want)
		if f, e := frame.Frame(c.d); e != api.OK || !bytes.Equal(f, want) {
			t.Errorf("Frame(%v) = %x, %d, not %s", c.d, f, e, c.want)
		}
		if d, n, e := frame.First(want); e != api.OK || n != len(want) || !frame.Same(d, c.d) {
			t.Errorf("First(%s) = %v, %d, %d", c.want, d, n, e)
		}
	}
}

func TestFrameAndFirst(t *testing.T) {
	for _, d := range slices.Concat(some(), full()) {
		f, e := frame.Frame(d)
		if e != api.OK || !bytes.Equal(f, slowFrame(d)) {
			t.Fatalf("Frame(%s) = %d bytes, %d", short(d), len(f), e)
		}
		for _, behind := range []string{"", "\x00", "\xff\xff", string(f)} {
			got, n, e := frame.First(append(slices.Clone(f), behind...))
			if e != api.OK || n != len(f) || !frame.Same(got, d) {
				t.Fatalf("First of %s and %d bytes = %s, %d, %d", short(d), len(behind), short(got), n, e)
			}
		}
	}
}

// wantFirst tells that First answers an error, and nothing beside.
func wantFirst(t *testing.T, b []byte, want api.Errno) {
	t.Helper()
	if d, n, e := frame.First(b); e != want || n != 0 || !blank(d) {
		t.Errorf("First(%x.., %d bytes) = %s, %d, %d, not %d", b[:min(len(b), 20)], len(b), short(d), n, e, want)
	}
}

func TestFirstText(t *testing.T) {
	for _, s := range []string{
		"", "00", "80", "02", "02 00", "02 0000", "02 0000 66", "02 0000 66af0e",
		// More bytes of a count than there need be.
		"80 00 ffffffff", "82 00 0000 66af0e38", "82 80 00 0000 66af0e38",
		// A count that is too great, or has no end.
		"81 20", "ffffffff07", "ffffffffffffffff7f", "ffffffffffffffffff01 00", "ffffffffffffffffff02", "80808080808080808001 0000",
		"fcffffffffffffffff01 0000", "feffffffffffffffff01 0000 66af0e38",
		"ffffffffffffffffffffffff", "82808080808080808080 00 0000 66af0e38", "82808080808080808002 0000 66af0e38",
	} {
		wantFirst(t, unhex(t, s), api.ErrText)
	}
	wantFirst(t, nil, api.ErrText)
}

// TestFirstCut: a frame that is not whole can't be read, whatever its sum is.
func TestFirstCut(t *testing.T) {
	for _, d := range slices.Concat(some()[:30], full()[:1]) {
		f := slowFrame(d)
		for n := range f {
			wantFirst(t, f[:n], api.ErrText)
		}
	}
}

func TestFirstCountAtTheLimit(t *testing.T) {
	for _, n := range []int{4097, 4098, 5000, 16384, 1 << 20} {
		wantFirst(t, framed(make([]byte, n)), api.ErrText)
	}
	for i, d := range over() {
		if i < 7 {
			wantFirst(t, slowFrame(d), api.ErrText)
		}
	}
	// 4096 noughts are no data's, but their sum is looked at first.
	f := framed(make([]byte, 4096))
	wantFirst(t, f, api.ErrText)
	f[len(f)-1] ^= 1
	wantFirst(t, f, api.ErrSum)
	wantFirst(t, f[:len(f)-1], api.ErrText)
}

func TestFirstNoData(t *testing.T) {
	for _, s := range []string{"", "00", "01", "00 00 00", "80 00 00", "02 0a 00", "01 ffffffffffffffffff02 00"} {
		b := unhex(t, s)
		f := framed(b)
		wantFirst(t, f, api.ErrText)
		for k := range 32 {
			g := slices.Clone(f)
			g[len(g)-1-k/8] ^= 1 << (k % 8)
			wantFirst(t, g, api.ErrSum)
		}
	}
}

// TestRowCut: a row that is cut anywhere has the frames that stand whole.
func TestRowCut(t *testing.T) {
	l := slices.Concat(some()[:20], full()[1:2], some()[:2])
	var b []byte
	ends := []int{0}
	for _, d := range l {
		b = append(b, slowFrame(d)...)
		ends = append(ends, len(b))
	}
	whole := 0
	for n := range len(b) + 1 {
		if whole < len(l) && n == ends[whole+1] {
			whole++
		}
		got, size := frame.Row(b[:n])
		if size != ends[whole] || !slices.EqualFunc(got, l[:whole], frame.Same) {
			t.Fatalf("Row of %d bytes: %d data, %d bytes, not %d, %d", n, len(got), size, whole, ends[whole])
		}
	}
}

func TestRowStops(t *testing.T) {
	a, b := api.Data{Nums: []int{1}}, api.Data{Texts: []string{"b"}}
	fa, fb := slowFrame(a), slowFrame(b)
	turned := slices.Clone(fa)
	turned[1] ^= 1
	for i, wrong := range [][]byte{turned, {0}, {0x80}, {0x80, 0}, framed(nil), framed([]byte{0}), framed(make([]byte, 4097)), {0xff, 0xff, 0xff, 0xff, 0xff, 0xff, 0xff, 0xff, 0xff, 1}} {
		row := slices.Concat(fa, fb, wrong, fb)
		got, n := frame.Row(row)
		if n != len(fa)+len(fb) || !slices.EqualFunc(got, []api.Data{a, b}, frame.Same) {
			t.Errorf("wrong %d: Row = %v, %d", i, got, n)
		}
		got, n = frame.Row(slices.Concat(wrong, fa))
		if n != 0 || len(got) != 0 {
			t.Errorf("wrong %d ahead: Row = %v, %d", i, got, n)
		}
	}
	if got, n := frame.Row(nil); n != 0 || len(got) != 0 {
		t.Errorf("Row of none = %v, %d", got, n)
	}
}

// turnBits turns those bits of a frame, counted from a place on, that a pattern has.
func turnBits(f []byte, place int, pattern uint32) {
	for k := range 32 {
		if pattern>>(31-k)&1 == 1 && place+k < 8*len(f) {
			f[(place+k)/8] ^= 0x80 >> ((place + k) % 8)
		}
	}
}

// TestTurned: bits turned within 32 in a row of a frame's data and sum are found, each alone and many together.
func TestTurned(t *testing.T) {
	c := chance(12345)
	for _, d := range slices.Concat(some()[:40], full()[2:3]) {
		f := slowFrame(d)
		from := 8 * len(slowCount(big.NewInt(int64(len(slowBytes(d))))))
		step := 1 + len(f)/80
		for place := from; place < 8*len(f); place += step {
			for _, pattern := range []uint32{1 << 31, 3 << 30, math.MaxUint32, 1<<31 | 1, 0xBA0DC66B, uint32(c.next()) | 1<<31} {
				g := slices.Clone(f)
				turnBits(g, place, pattern)
				wantFirst(t, g, api.ErrSum)
				if l, n := frame.Row(g); len(l) != 0 || n != 0 {
					t.Fatalf("Row of a frame with bits turned: %d data, %d", len(l), n)
				}
			}
		}
	}
}

// TestTurnedAnywhere: no single bit turned, in the count either, leaves a frame as good as it was.
func TestTurnedAnywhere(t *testing.T) {
	for _, d := range some()[:40] {
		f := slowFrame(d)
		for place := range 8 * len(f) {
			g := slices.Clone(f)
			turnBits(g, place, 1<<31)
			if got, n, e := frame.First(g); e == api.OK || n != 0 || !blank(got) {
				t.Errorf("First(%x) = %v, %d, %d", g, got, n, e)
			}
		}
	}
}

// roomy is bytes with a known room behind them.
func roomy(b []byte) []byte {
	l := slices.Concat(b, bytes.Repeat([]byte{0xA5}, 64))
	return l[:len(b)]
}

// TestHandedIn: what is handed in is neither changed nor kept, and answers are new memory.
func TestHandedIn(t *testing.T) {
	d := api.Data{Nums: []int{1, -2, 3}, Texts: []string{"ab", "", "c"}}
	row := roomy(slices.Concat(slowFrame(d), slowFrame(d)))
	body := roomy(slowBytes(d))
	rowWas, bodyWas := slices.Clone(row[:cap(row)]), slices.Clone(body[:cap(body)])
	got, _ := frame.Row(row)
	first, _, _ := frame.First(row)
	decoded, _ := frame.Decode(body)
	frame.Sum(body)
	if !bytes.Equal(row[:cap(row)], rowWas) || !bytes.Equal(body[:cap(body)], bodyWas) {
		t.Error("what was handed in has changed")
	}
	clear(row[:cap(row)])
	clear(body[:cap(body)])
	for _, g := range []api.Data{got[0], got[1], first, decoded} {
		if !frame.Same(g, d) {
			t.Errorf("%v hangs on what was handed in", g)
		}
	}
	fill(got[0])
	if !frame.Same(got[1], d) {
		t.Error("two data of a row share memory")
	}
}

// fill writes over data's lists and the room behind them.
func fill(d api.Data) {
	nums, texts := d.Nums[:cap(d.Nums)], d.Texts[:cap(d.Texts)]
	for i := range nums {
		nums[i] = 77
	}
	for i := range texts {
		texts[i] = "filled"
	}
}

func TestAnswersAreNew(t *testing.T) {
	d := api.Data{Nums: []int{1, -2, 3}, Texts: []string{"ab", "", "c"}}
	calls := []func() []byte{
		func() []byte { return frame.Count(300) },
		func() []byte { return frame.Number(-300) },
		func() []byte { b, _ := frame.Encode(d); return b },
		func() []byte { b, _ := frame.Frame(d); return b },
	}
	for i, call := range calls {
		a := call()
		was := slices.Clone(a)
		clear(a[:cap(a)])
		if !bytes.Equal(call(), was) {
			t.Errorf("call %d answers from memory of an answer ahead", i)
		}
	}
	if !frame.Same(d, api.Data{Nums: []int{1, -2, 3}, Texts: []string{"ab", "", "c"}}) {
		t.Error("the data have changed")
	}
}

// TestAnyBytes: every call ends, and none panics, at bytes without a pattern.
func TestAnyBytes(t *testing.T) {
	c := chance(4711)
	for range 20000 {
		b := c.bytes(c.below(40))
		if len(b) > 0 {
			b[0] >>= c.below(8)
		}
		l, n := frame.Row(b)
		if n > len(b) || len(l) > n {
			t.Fatalf("Row(%x) = %v, %d", b, l, n)
		}
		frame.Decode(b)
		frame.First(b)
		frame.Sum(b)
	}
}
