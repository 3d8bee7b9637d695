package drum_test

import (
	"bytes"
	"fmt"
	"math"
	"slices"
	"testing"

	"windrose/api"
	"windrose/drum"
)

func TestNewTakes(t *testing.T) {
	for _, n := range []int{8, 10, 12, 14, 62, 64, 66, 100, 2048, 4094, 4096, 8188, 8190, 8192} {
		d := made(t, n)
		if d.Sectors() != n || d.Pending() != 0 || d.Gone() {
			t.Errorf("New(%d): Sectors %d, Pending %d, Gone %v", n, d.Sectors(), d.Pending(), d.Gone())
		}
		b, e := d.Read(0, n)
		if e != api.OK || !bytes.Equal(b, make([]byte, n*size)) {
			t.Errorf("New(%d): not %d sectors of noughts: %d bytes, error %d", n, n, len(b), e)
		}
	}
}

func TestNewRefuses(t *testing.T) {
	l := []int{0, -1, -2, -7, -8, -10, -8192, 7, 9, 11, 63, 65, 8189, 8191, 8193, 8194, 8196, 16384, 65536, 1<<31 - 1, 1 << 31, 1<<32 + 8, 1<<58 + 8,
		1 << 62, math.MaxInt - 1, math.MaxInt, math.MinInt, math.MinInt + 1, math.MinInt + 8}
	for n := range 8 {
		l = append(l, n)
	}
	for _, n := range l {
		if d, e := drum.New(n); d != nil || e != api.ErrArg {
			t.Errorf("New(%d): %v, error %d, want none, and ErrArg", n, d != nil, e)
		}
	}
}

func TestNewOnAndOn(t *testing.T) {
	for n := -300; n <= 300; n++ {
		d, e := drum.New(n)
		if may := n >= 8 && n%2 == 0; may != (e == api.OK) || may != (d != nil) {
			t.Errorf("New(%d): %v, error %d", n, d != nil, e)
		}
	}
}

// readRows are what Read is asked of a drum of 8 sectors, that have the numbers 1 to 8, and what it must answer.
var readRows = []struct {
	at, n int
	e     api.Errno
}{
	{0, 1, api.OK}, {7, 1, api.OK}, {3, 1, api.OK}, {0, 8, api.OK}, {1, 7, api.OK}, {2, 3, api.OK}, {6, 2, api.OK}, {0, 7, api.OK}, {4, 4, api.OK},
	{0, 9, api.ErrNone}, {1, 8, api.ErrNone}, {7, 2, api.ErrNone}, {8, 1, api.ErrNone}, {9, 1, api.ErrNone}, {100, 1, api.ErrNone}, {8, 8, api.ErrNone},
	{-1, 1, api.ErrNone}, {-1, 2, api.ErrNone}, {-1, 9, api.ErrNone}, {-8, 8, api.ErrNone}, {-8, 16, api.ErrNone}, {-3, 3, api.ErrNone},
	{math.MaxInt, 1, api.ErrNone}, {math.MaxInt, math.MaxInt, api.ErrNone}, {1, math.MaxInt, api.ErrNone}, {0, math.MaxInt, api.ErrNone},
	{7, math.MaxInt - 6, api.ErrNone}, {math.MaxInt - 7, 8, api.ErrNone}, {math.MaxInt - 6, 8, api.ErrNone}, {math.MaxInt - 6, 7, api.ErrNone},
	{math.MinInt, 1, api.ErrNone}, {math.MinInt, 8, api.ErrNone}, {math.MinInt, math.MaxInt, api.ErrNone}, {-math.MaxInt, math.MaxInt, api.ErrNone},
	{1 << 58, 1, api.ErrNone}, {0, 1 << 58, api.ErrNone}, {0, 1<<58 + 1, api.ErrNone}, {1<<58 + 1, 1, api.ErrNone},
	{0, 0, api.OK}, {3, 0, api.OK}, {7, 0, api.OK}, {8, 0, api.OK}, {9, 0, api.OK}, {-1, 0, api.OK}, {math.MaxInt, 0, api.OK}, {math.MinInt, 0, api.OK},
	{0, -1, api.ErrArg}, {7, -1, api.ErrArg}, {8, -8, api.ErrArg}, {0, math.MinInt, api.ErrArg}, {3, -2, api.ErrArg},
	// Both errors could be: ErrArg comes first.
	{-1, -1, api.ErrArg}, {8, -1, api.ErrArg}, {9, -1, api.ErrArg}, {9, -2, api.ErrArg}, {math.MaxInt, math.MinInt, api.ErrArg}, {math.MinInt, -1, api.ErrArg},
	{math.MinInt, math.MinInt, api.ErrArg}, {math.MaxInt, -1, api.ErrArg},
}

func TestRead(t *testing.T) {
	d := made(t, 8)
	write(t, d, 0, 1, 2, 3, 4, 5, 6, 7, 8)
	ahead := state(t, d)
	for _, r := range readRows {
		b, e := d.Read(r.at, r.n)
		var must []byte
		if r.e == api.OK {
			for i := range r.n {
				must = append(must, page(r.at+i+1)...)
			}
		}
		if e != r.e || !bytes.Equal(b, must) {
			t.Errorf("Read(%d, %d): %d bytes, error %d, want %d bytes, error %d", r.at, r.n, len(b), e, len(must), r.e)
		}
	}
	if state(t, d) != ahead {
		t.Error("Read changed the drum")
	}
}

func TestReadOfTheGreatest(t *testing.T) {
	d := made(t, 8192)
	write(t, d, 0, 5)
	write(t, d, 8190, 6, 7)
	for _, r := range []struct {
		at, n int
		e     api.Errno
	}{{8191, 1, api.OK}, {8190, 2, api.OK}, {8191, 2, api.ErrNone}, {8192, 1, api.ErrNone}, {0, 8192, api.OK}, {0, 8193, api.ErrNone}, {1, 8192, api.ErrNone}} {
		b, e := d.Read(r.at, r.n)
		if e != r.e || e == api.OK && (len(b) != r.n*size || number(b[len(b)-size:]) != 7) || e != api.OK && len(b) != 0 {
			t.Errorf("Read(%d, %d): %d bytes, error %d, want error %d", r.at, r.n, len(b), e, r.e)
		}
	}
	for n := range 100 {
		at := n * 80
		if b, e := d.Read(at, 1); e != api.OK || number(b) != map[bool]int{true: 5}[at == 0] {
			t.Errorf("Read(%d, 1): %v, error %d", at, b, e)
		}
	}
}

func TestWriteTakes(t *testing.T) {
	for _, r := range []struct {
		at   int
		l    []int
		must []int
	}{
		{0, []int{1}, []int{1}},
		{7, []int{1}, []int{0, 0, 0, 0, 0, 0, 0, 1}},
		{3, []int{1, 2}, []int{0, 0, 0, 1, 2}},
		{6, []int{1, 2}, []int{0, 0, 0, 0, 0, 0, 1, 2}},
		{0, []int{1, 2, 3, 4, 5, 6, 7, 8}, []int{1, 2, 3, 4, 5, 6, 7, 8}},
		{1, []int{1, 2, 3, 4, 5, 6, 7}, []int{0, 1, 2, 3, 4, 5, 6, 7}},
		{0, []int{0}, nil},
		{2, []int{1, 0, 2}, []int{0, 0, 1, 0, 2}},
		{0, nil, nil}, {7, nil, nil}, {8, nil, nil}, {9, nil, nil}, {-1, nil, nil}, {math.MaxInt, nil, nil}, {math.MinInt, nil, nil},
	} {
		d := made(t, 8)
		if e := d.Write(r.at, pages(r.l...)); e != api.OK {
			t.Errorf("Write(%d, %d bytes): error %d", r.at, len(r.l)*size, e)
		}
		want(t, d, fmt.Sprint("Write ", r.at, r.l), len(r.l), false, r.must...)
		if e := d.Write(r.at, append([]byte{}, pages(r.l...)...)[:0]); e != api.OK {
			t.Errorf("Write(%d) of no bytes: error %d", r.at, e)
		}
		want(t, d, fmt.Sprint("no bytes behind Write ", r.at, r.l), len(r.l), false, r.must...)
	}
}

func TestWriteRefuses(t *testing.T) {
	for _, r := range []struct {
		at, n int
		e     api.Errno
	}{
		{0, 1, api.ErrArg}, {0, 63, api.ErrArg}, {0, 65, api.ErrArg}, {0, 127, api.ErrArg}, {0, 129, api.ErrArg}, {7, 32, api.ErrArg}, {0, 511, api.ErrArg}, {0, 513, api.ErrArg},
		{8, 64, api.ErrNone}, {9, 64, api.ErrNone}, {7, 128, api.ErrNone}, {0, 576, api.ErrNone}, {1, 512, api.ErrNone}, {6, 192, api.ErrNone}, {8, 512, api.ErrNone},
		{-1, 64, api.ErrNone}, {-1, 128, api.ErrNone}, {-8, 512, api.ErrNone}, {-1, 576, api.ErrNone}, {-2, 128, api.ErrNone},
		{math.MaxInt, 64, api.ErrNone}, {math.MaxInt, 128, api.ErrNone}, {math.MaxInt - 1, 128, api.ErrNone}, {math.MinInt, 64, api.ErrNone}, {1 << 58, 64, api.ErrNone},
		{1<<58 + 1, 64, api.ErrNone}, {-(1 << 58), 64, api.ErrNone},
		// Both errors could be: ErrArg comes first.
		{8, 63, api.ErrArg}, {7, 65, api.ErrArg}, {7, 127, api.ErrArg}, {-1, 1, api.ErrArg}, {-1, 65, api.ErrArg}, {math.MaxInt, 63, api.ErrArg}, {math.MinInt, 129, api.ErrArg},
		{0, 577, api.ErrArg}, {1, 511, api.ErrArg},
	} {
		d := made(t, 8)
		write(t, d, 0, 1, 2, 3, 4, 5, 6, 7, 8)
		d.Sync()
		write(t, d, 6, 9, 10)
		d.Arm(1)
		if e := d.Write(r.at, bytes.Repeat([]byte{99}, r.n)); e != r.e {
			t.Errorf("Write(%d, %d bytes): error %d, want %d", r.at, r.n, e, r.e)
		}
		what := fmt.Sprintf("behind a refused Write(%d, %d bytes)", r.at, r.n)
		want(t, d, what, 2, false, 1, 2, 3, 4, 5, 6, 9, 10)
		write(t, d, 0, 11)
		want(t, d, what+", and one that counts", 3, false, 11, 2, 3, 4, 5, 6, 9, 10)
		write(t, d, 0, 12)
		want(t, d, what+", and one at which the power goes", 3, true, 12, 2, 3, 4, 5, 6, 9, 10)
		d.Crash(pattern("nyy"))
		want(t, d, what+", and a crash", 0, false, 11, 2, 3, 4, 5, 6, 7, 10)
	}
}

// A write of many sectors is that many writes, in the order of the sectors, wherever the power goes and whatever a crash keeps.
func TestWriteIsOneByOne(t *testing.T) {
	for _, p := range append(allPatterns(4), "", "y", "n", "yn", "yyn") {
		for arm := -1; arm <= 6; arm++ {
			whole, single := made(t, 8), made(t, 8)
			for _, d := range []*drum.Drum{whole, single} {
				write(t, d, 2, 90, 91)
				d.Sync()
				d.Arm(arm)
			}
			write(t, whole, 1, 1, 2, 3, 4)
			for i := range 4 {
				write(t, single, 1+i, 1+i)
			}
			if state(t, whole) != state(t, single) {
				t.Fatalf("armed with %d: %s, one by one %s", arm, state(t, whole), state(t, single))
			}
			whole.Crash(pattern(p))
			single.Crash(pattern(p))
			if state(t, whole) != state(t, single) {
				t.Fatalf("armed with %d, crash %q: %s, one by one %s", arm, p, state(t, whole), state(t, single))
			}
		}
	}
	d := made(t, 8)
	write(t, d, 1, 1, 2, 3, 4)
	want(t, d, "4 sectors", 4, false, 0, 1, 2, 3, 4)
	d.Crash(pattern("yn"))
	want(t, d, "4 sectors, the first and the third of them kept", 0, false, 0, 1, 0, 3)
}

func TestWriteIsSeenAtOnce(t *testing.T) {
	d := made(t, 8)
	for x := 1; x <= 200; x++ {
		at := x * 5 % 8
		write(t, d, at, x)
		if b, e := d.Read(at, 1); e != api.OK || number(b) != x {
			t.Fatalf("written %d at %d, seen %d, error %d", x, at, number(b), e)
		}
		if d.Pending() != x {
			t.Fatalf("%d writes, Pending %d", x, d.Pending())
		}
	}
}

func TestSyncAndPending(t *testing.T) {
	d := made(t, 8)
	d.Sync()
	want(t, d, "Sync of nothing", 0, false)
	d.Crash(nil)
	want(t, d, "and a crash", 0, false)
	write(t, d, 0, 1)
	write(t, d, 0, 2)
	write(t, d, 5, 3, 4)
	want(t, d, "four writes", 4, false, 2, 0, 0, 0, 0, 3, 4)
	d.Sync()
	want(t, d, "Sync", 0, false, 2, 0, 0, 0, 0, 3, 4)
	d.Sync()
	want(t, d, "Sync again", 0, false, 2, 0, 0, 0, 0, 3, 4)
	for _, p := range []string{"", "n", "y", "ynyn"} {
		d.Crash(pattern(p))
		want(t, d, "a crash of what is synced", 0, false, 2, 0, 0, 0, 0, 3, 4)
	}
	write(t, d, 1, 5)
	want(t, d, "written again", 1, false, 2, 5, 0, 0, 0, 3, 4)
	d.Crash(pattern("n"))
	want(t, d, "and undone", 0, false, 2, 0, 0, 0, 0, 3, 4)
	write(t, d, 1, 6)
	d.Crash(pattern("y"))
	d.Crash(pattern("n"))
	want(t, d, "what a crash kept is kept", 0, false, 2, 6, 0, 0, 0, 3, 4)
}

func TestCrashGoesByThePattern(t *testing.T) {
	for _, r := range []struct {
		pattern string
		must    []int
	}{
		{"", []int{91, 92, 93, 94, 95}},
		{"n", []int{91, 92, 93, 94, 95}},
		{"y", []int{1, 2, 3, 4, 5}},
		{"yn", []int{1, 92, 3, 94, 5}},
		{"ny", []int{91, 2, 93, 4, 95}},
		{"nny", []int{91, 92, 3, 94, 95}},
		{"yny", []int{1, 92, 3, 4, 95}},
		{"yyyn", []int{1, 2, 3, 94, 5}},
		{"nnnnn", []int{91, 92, 93, 94, 95}},
		{"nnnny", []int{91, 92, 93, 94, 5}},
		{"ynnnn", []int{1, 92, 93, 94, 95}},
		{"yynny", []int{1, 2, 93, 94, 5}},
		{"nnnnnyyyy", []int{91, 92, 93, 94, 95}},
		{"yyyyyn", []int{1, 2, 3, 4, 5}},
		{"nynynyyyyyyyyyyyyyyyy", []int{91, 2, 93, 4, 95}},
	} {
		d := made(t, 8)
		write(t, d, 0, 91, 92, 93, 94, 95)
		d.Sync()
		write(t, d, 0, 1, 2, 3, 4, 5)
		d.Crash(pattern(r.pattern))
		want(t, d, fmt.Sprintf("crash %q", r.pattern), 0, false, r.must...)
	}
}

// The order is that in which the writes were done, not that of the sectors.
func TestCrashGoesByTheOrderOfWrites(t *testing.T) {
	d := made(t, 8)
	for i, at := range []int{5, 1, 7, 0} {
		write(t, d, at, i+1)
	}
	d.Crash(pattern("yynn"))
	want(t, d, "kept the first two", 0, false, 0, 2, 0, 0, 0, 1)
	for i, at := range []int{6, 2, 4} {
		write(t, d, at, i+11)
	}
	d.Crash(pattern("nny"))
	want(t, d, "the count begins anew behind a crash", 0, false, 0, 2, 0, 0, 13, 1)
	write(t, d, 0, 21)
	d.Sync()
	write(t, d, 3, 22)
	write(t, d, 2, 23)
	d.Crash(pattern("yn"))
	want(t, d, "and behind a Sync", 0, false, 21, 2, 0, 22, 13, 1)
}

func TestCrashOfOneSectorWrittenOften(t *testing.T) {
	for _, r := range []struct {
		pattern string
		must    int
	}{{"nnn", 9}, {"ynn", 1}, {"nyn", 2}, {"nny", 3}, {"yyn", 2}, {"yny", 3}, {"nyy", 3}, {"yyy", 3}, {"", 9}, {"n", 9}, {"y", 3}, {"yn", 3}, {"ny", 2}, {"ynnyyyy", 1}} {
		for at := range 8 {
			d := made(t, 8)
			write(t, d, at, 9)
			d.Sync()
			for x := 1; x <= 3; x++ {
				write(t, d, at, x)
			}
			d.Crash(pattern(r.pattern))
			want(t, d, fmt.Sprintf("sector %d thrice, crash %q", at, r.pattern), 0, false, append(make([]int, at), r.must)...)
		}
	}
}

func TestCrashOfTwoSectorsWrittenByTurns(t *testing.T) {
	for _, p := range allPatterns(6) {
		d := made(t, 8)
		write(t, d, 0, 90, 91)
		d.Sync()
		must := []int{90, 91}
		for i := range 6 {
			write(t, d, i%2, i+1)
			if p[i] == 'y' {
				must[i%2] = i + 1
			}
		}
		d.Crash(pattern(p))
		want(t, d, fmt.Sprintf("by turns, crash %q", p), 0, false, must...)
	}
}

// Example 1 of the chapter.
func TestExample(t *testing.T) {
	d := made(t, 8)
	write(t, d, 0, 1)
	d.Sync()
	write(t, d, 0, 2)
	d.Crash([]bool{false})
	want(t, d, "the example", 0, false, 1)
}

// notGiven are drums that New did not give.
func notGiven() map[string]*drum.Drum {
	return map[string]*drum.Drum{"none": nil, "the zero one": {}}
}

func TestDrumThatNewDidNotGive(t *testing.T) {
	for name, d := range notGiven() {
		told := func(what string) {
			t.Helper()
			if d.Sectors() != 0 || d.Pending() != 0 || d.Gone() {
				t.Errorf("%s, behind %s: Sectors %d, Pending %d, Gone %v", name, what, d.Sectors(), d.Pending(), d.Gone())
			}
			for _, at := range []int{math.MinInt, -1, 0, 1, 7, 8, math.MaxInt} {
				for n, must := range map[int]api.Errno{math.MinInt: api.ErrArg, -1: api.ErrArg, 0: api.OK, 1: api.ErrNone, 8: api.ErrNone, math.MaxInt: api.ErrNone} {
					if b, e := d.Read(at, n); len(b) != 0 || e != must {
						t.Errorf("%s, behind %s: Read(%d, %d): %d bytes, error %d, want %d", name, what, at, n, len(b), e, must)
					}
				}
				for n, must := range map[int]api.Errno{0: api.OK, 1: api.ErrArg, 63: api.ErrArg, 64: api.ErrNone, 65: api.ErrArg, 128: api.ErrNone} {
					if e := d.Write(at, make([]byte, n)); e != must {
						t.Errorf("%s, behind %s: Write(%d, %d bytes): error %d, want %d", name, what, at, n, e, must)
					}
				}
			}
		}
		told("nothing")
		d.Sync()
		told("Sync")
		for _, n := range []int{0, 1, -1, math.MaxInt, math.MinInt} {
			d.Arm(n)
			told(fmt.Sprint("Arm ", n))
		}
		d.Arm(0)
		d.Sync()
		told("Arm 0 and Sync")
		for _, p := range []string{"", "y", "n"} {
			d.Crash(pattern(p))
			told("Crash " + p)
		}
		d.Arm(0)
		d.Wipe()
		told("Wipe")
	}
}

func TestNothingHandedInIsChanged(t *testing.T) {
	b := append(pages(1, 2, 3), page(77)...)
	copyOf := bytes.Clone(b)
	p := pattern("ynyyyn")
	copyOfP := slices.Clone(p)
	for _, l := range []int{0, 63, 64, 65, 128, 192} {
		for _, at := range []int{-1, 0, 6, 7, 8, math.MaxInt} {
			for _, arm := range []int{-1, 0, 1} {
				d := made(t, 8)
				d.Arm(arm)
				d.Write(at, b[:l])
				d.Crash(p[:3])
				d.Write(at, b[:l])
				d.Sync()
				d.Wipe()
				d.Crash(p[:0])
				if !bytes.Equal(b, copyOf) || !slices.Equal(p, copyOfP) {
					t.Fatalf("at %d, %d bytes, armed with %d: what was handed in has changed", at, l, arm)
				}
			}
		}
	}
}

// What is written to the bytes that Write was handed, or to the pattern of a crash, later, is not seen.
func TestNothingHandedInIsKept(t *testing.T) {
	for _, p := range []string{"y", "n", "yn"} {
		d := made(t, 8)
		b := pages(1, 2)
		d.Write(0, b)
		clear(b)
		want(t, d, "the bytes written to behind Write", 2, false, 1, 2)
		d.Sync()
		want(t, d, "and behind Sync", 0, false, 1, 2)
		d.Crash(nil)
		want(t, d, "and behind Crash", 0, false, 1, 2)
		b = pages(3, 4)
		d.Write(0, b)
		clear(b)
		said := pattern(p)
		d.Crash(said)
		must := numbers(t, d)
		for i := range said {
			said[i] = !said[i]
		}
		d.Crash(nil)
		want(t, d, "the pattern written to behind Crash", 0, false, must...)
	}
	d := made(t, 8)
	d.Arm(1)
	b := pages(5, 6)
	d.Write(0, b)
	clear(b)
	want(t, d, "the bytes written to once the power is gone", 1, true, 5, 6)
	d.Crash(pattern("y"))
	want(t, d, "and a crash", 0, false, 5)
}

func TestReadIsNewMemory(t *testing.T) {
	for _, sync := range []bool{false, true} {
		d, other := made(t, 8), made(t, 8)
		write(t, d, 0, 1, 2, 3)
		if sync {
			d.Sync()
		}
		for at := range 8 {
			for n := 0; at+n <= 8; n++ {
				a, _ := d.Read(at, n)
				b, _ := d.Read(at, n)
				spoil(a[:cap(a)])
				if len(b) > 0 && (&a[0] == &b[0] || !bytes.Equal(b, pages(1, 2, 3, 0, 0, 0, 0, 0)[at*size:(at+n)*size])) {
					t.Fatalf("two answers of Read(%d, %d) share memory", at, n)
				}
			}
		}
		pending := 3
		if sync {
			pending = 0
		}
		want(t, d, "behind writing to what Read told", pending, false, 1, 2, 3)
		d.Crash(pattern("y"))
		want(t, d, "and a crash", 0, false, 1, 2, 3)
		want(t, other, "another drum", 0, false)
	}
}

func spoil(b []byte) {
	for i := range b {
		b[i] ^= 0xFF
	}
}
