package journal_test

import (
	"bytes"
	"fmt"
	"slices"
	"testing"

	"windrose/api"
	"windrose/drum"
	"windrose/journal"
)

func TestOpenOfNone(t *testing.T) {
	for _, d := range []*drum.Drum{nil, {}} {
		if j, e := journal.Open(d); j != nil || e != api.ErrArg {
			t.Errorf("Open of no drum: %v, error %d", j != nil, e)
		}
	}
}

// Of a drum of noughts none is a head: the second half of age 0 is in use, and the first one is begun, of age 1.
func TestOpenOfNoughts(t *testing.T) {
	for _, n := range []int{8, 10, 12, 32, 1000, 8190, 8192} {
		d := made(t, n)
		j := opened(t, d)
		want(t, j, fmt.Sprint(n, " sectors"), rowOf(n))
		wantImage(t, d, fmt.Sprint(n, " sectors"), disk(n, head(7, 1, 0), nil, nil, nil))
		if d.Pending() != 0 || j.Gone() {
			t.Errorf("%d sectors: Pending %d, Gone %v", n, d.Pending(), j.Gone())
		}
	}
}

// The bytes were reckoned by hand from the words of the chapters 2 and 10.
func TestKnownBytes(t *testing.T) {
	d := made(t, 8)
	j := opened(t, d)
	wantImage(t, d, "opened", disk(8, unhex(t, "05030e020000 9264a563"), nil, nil, nil))
	x, y := num(1), api.Data{Nums: []int{-2}, Texts: []string{"ab", ""}}
	add(t, j, x, y)
	row := unhex(t, "080102010400000001 18d3c108 0c010303040000000102616200 fc2dbdcc")
	wantImage(t, d, "appended", disk(8, unhex(t, "05030e020000 9264a563"), row, nil, nil))
	j.Sync()
	must := disk(8, unhex(t, "05030e023c00 a4d6974f"), row, nil, nil)
	wantImage(t, d, "synced", must)
	j = opened(t, d)
	want(t, j, "opened anew", 192-30, x, y)
	row2 := unhex(t, "080102010400000002 84ff5471 0c010303040000000202616200 5152779c")
	copy(must[256:], unhex(t, "05030e043c00 c0da6f86"))
	copy(must[320:], row2)
	wantImage(t, d, "opened anew", must)
	anew(t, j, api.Data{})
	clear(must[:128])
	copy(must, unhex(t, "05030e061800 8775976e"))
	copy(must[64:], unhex(t, "0700010400000003 51c16889"))
	wantImage(t, d, "begun anew", must)
}

// openRow is a drum as it may be found, and the age and the records of the half in use.
type openRow struct {
	what   string
	disk   []byte
	second bool
	age    int
	l      []api.Data
}

// openRows are of drums of 8 sectors, whose rows have 192 bytes each.
func openRows() []openRow {
	a, b, c := num(1), api.Data{Nums: []int{2, -3}, Texts: []string{"b"}}, api.Data{Texts: []string{"", "cc"}}
	abc := []api.Data{a, b, c}
	at := func(g int) (head1 []byte, row []byte) { r := framed(g, abc...); return head(7, g, len(r)), r }
	h1, r1 := at(1)
	h5, r5 := at(5)
	h6, r6 := framedHead(6, c)
	last, lastRow := at(oldest - 1)
	full := many(192)
	hf, rf := framedHead(9, full...)
	return []openRow{
		{"the first head alone", disk(8, h1, r1, nil, nil), false, 1, abc},
		{"the second head alone", disk(8, nil, nil, h1, r1), true, 1, abc},
		{"the second head alone, and a row ahead", disk(8, nil, r1, h5, r5), true, 5, abc},
		{"no head, but rows", disk(8, nil, r1, nil, r5), true, 0, nil},
		{"no head, but rows of age 0", disk(8, nil, framed(0, a), nil, framed(0, b)), true, 0, nil},
		{"the first one younger", disk(8, h5, r5, h6, r6), true, 6, []api.Data{c}},
		{"the first one older", disk(8, h6, r6, h5, r5), false, 6, []api.Data{c}},
		{"far apart", disk(8, last, lastRow, h1, framed(1, c)), false, oldest - 1, abc},
		{"ages alike", disk(8, h5, r5, head(7, 5, len(framed(5, c))), framed(5, c)), false, 5, abc},
		{"ages alike, the first one without records", disk(8, head(7, 5, 0), nil, h5, r5), false, 5, nil},
		{"the last age that can be begun anew", disk(8, nil, nil, last, lastRow), true, oldest - 1, abc},
		{"a full row", disk(8, hf, rf, nil, nil), false, 9, full},
		{"no records", disk(8, head(7, 3, 0), r5, nil, nil), false, 3, nil},
	}
}

// framedHead is a head and a row.
func framedHead(age int, l ...api.Data) ([]byte, []byte) {
	row := framed(age, l...)
	return head(7, age, len(row)), row
}

// wantOpened holds what Open of a drum tells, and leaves there, against the half that was in use: the other one is begun anew, of an age one more, and nothing else is written.
func wantOpened(t *testing.T, r openRow) {
	t.Helper()
	d := laid(t, r.disk)
	j, e := journal.Open(d)
	if e != api.OK {
		t.Errorf("%s: error %d", r.what, e)
		return
	}
	row := framed(r.age+1, r.l...)
	want(t, j, r.what, rowOf(d.Sectors())-len(row), r.l...)
	must := slices.Clone(r.disk)
	at := len(must) / 2
	if r.second {
		at = 0
	}
	copy(must[at:], filled(head(7, r.age+1, len(row))))
	copy(must[at+size:], filled(row))
	wantImage(t, d, r.what, must)
	if d.Pending() != 0 {
		t.Errorf("%s: %d writes are not synced", r.what, d.Pending())
	}
	if r.age+1 < oldest {
		want(t, opened(t, d), r.what+", and opened anew", rowOf(d.Sectors())-len(row), r.l...)
	}
}

func TestOpen(t *testing.T) {
	for _, r := range openRows() {
		wantOpened(t, r)
	}
}

// What is no head is of no account: the first half is in use, of age 5, though the second one's sector would be younger.
func TestNoHead(t *testing.T) {
	a := num(4)
	h5, r5 := framedHead(5, a)
	young := framed(6, num(9))
	good := head(7, 6, len(young))
	turned := slices.Clone(good)
	turned[3] ^= 2
	late := filled(good)
	late[size-1] = 1
	for what, h := range map[string][]byte{
		"noughts":                             nil,
		"another first number":                head(8, 6, len(young)),
		"no first number":                     head(6, len(young)),
		"a first number below 0":              head(-7, 6, len(young)),
		"a number more":                       head(7, 6, len(young), 0),
		"numbers none":                        head(),
		"a text":                              bare(api.Data{Nums: []int{7, 6, len(young)}, Texts: []string{""}}),
		"the age as a text":                   bare(api.Data{Nums: []int{7, 6, len(young)}, Texts: []string{"\x00\x00\x00\x06"}}),
		"texts alone":                         bare(api.Data{Texts: []string{"7", "6", "0"}}),
		"e greater by one than the row":       head(7, 6, 193),
		"e far greater":                       head(7, 6, 1<<40),
		"e the greatest":                      head(7, 6, 1<<63-1),
		"e below 0":                           head(7, 6, -1),
		"e the least":                         head(7, 6, -1<<63),
		"e of all sectors of the half":        head(7, 6, 256),
		"age 2^31":                            head(7, 1<<31, len(young)),
		"age 2^32 + 6":                        head(7, 1<<32+6, len(young)),
		"age the greatest":                    head(7, 1<<63-1, len(young)),
		"age below 0":                         head(7, -6, len(young)),
		"followed by something":               append(slices.Clone(good), 1),
		"followed by something, far behind":   late,
		"followed by another head":            append(slices.Clone(good), good...),
		"a bit turned":                        turned,
		"not at the beginning":                append([]byte{0}, good...),
		"cut":                                 good[:len(good)-1],
		"more bytes of a count than need be":  append([]byte{good[0] | 0x80, 0}, good[1:]...),
		"bytes that are no frame":             bytes.Repeat([]byte{0xA5}, size),
		"a frame that would go on behind it":  bytes.Repeat([]byte{61}, size),
		"all bits set":                        bytes.Repeat([]byte{0xff}, size),
		"a frame of the journal, with an age": framed(6, api.Data{Nums: []int{7, 6, 0}}),
	} {
		wantOpened(t, openRow{"the second head: " + what, disk(8, h5, r5, h, young), false, 5, []api.Data{a}})
		h6, r6 := framedHead(6, a)
		wantOpened(t, openRow{"the first head: " + what, disk(8, h, young, h6, r6), true, 6, []api.Data{a}})
		wantOpened(t, openRow{"both heads: " + what, disk(8, h, young, h, young), true, 0, nil})
	}
	for _, age := range []int{0, -1, 1 << 31} {
		h := head(7, age, 0)
		wantOpened(t, openRow{fmt.Sprint("both heads of age ", age), disk(8, h, nil, h, nil), true, 0, nil})
	}
	wantOpened(t, openRow{"age 0 and frames of it", disk(8, nil, nil, head(7, 0, 12), framed(0, api.Data{})), true, 0, nil})
}

// e may be as great as the row, and not greater, of drums of all sizes.
func TestGreatestEnd(t *testing.T) {
	for _, n := range []int{8, 10, 64, 4096, 8192} {
		l := []api.Data{num(1), num(2)}
		row := framed(3, l...)
		wantOpened(t, openRow{fmt.Sprint(n, " sectors, e the row"), disk(n, head(7, 3, rowOf(n)), row, nil, nil), false, 3, l})
		wantOpened(t, openRow{fmt.Sprint(n, " sectors, e one more"), disk(n, head(7, 3, rowOf(n)+1), row, nil, nil), true, 0, nil})
	}
}

// The age 2^31 - 1 is one: but there is none behind it, and nothing is written.
func TestOpenOfTheLastAge(t *testing.T) {
	h, row := framedHead(oldest, num(1), num(2))
	h3, r3 := framedHead(3, num(3))
	for what, b := range map[string][]byte{
		"the first alone":               disk(8, h, row, nil, nil),
		"the second alone":              disk(8, nil, nil, h, row),
		"both":                          disk(8, h, row, h, row),
		"beside a younger one":          disk(8, h, row, h3, r3),
		"behind a younger one":          disk(8, h3, r3, h, row),
		"without records":               disk(8, nil, nil, head(7, oldest, 0), nil),
		"with something that is no row": disk(8, h, bytes.Repeat([]byte{0xff}, 192), nil, nil),
	} {
		d := laid(t, b)
		d.Arm(0)
		if j, e := journal.Open(d); j != nil || e != api.ErrFull {
			t.Errorf("%s: %v, error %d, want ErrFull", what, j != nil, e)
		}
		wantImage(t, d, what, b)
		if d.Gone() {
			t.Errorf("%s: something was written", what)
		}
	}
	// What is of that age, but no head, is of no account.
	wantOpened(t, openRow{"that age, and e greater than the row", disk(8, head(7, oldest, 193), nil, h3, r3), true, 3, []api.Data{num(3)}})
}

// The records end where there is no frame of that age, or none that ends in the first e bytes.
func TestRecordsEnd(t *testing.T) {
	a, b, c := num(1), num(2), num(3)
	fa, fb, fc := framed(7, a), framed(7, b), framed(7, c)
	turned := slices.Clone(fb)
	turned[4] ^= 1
	cat := func(l ...[]byte) []byte { return slices.Concat(l...) }
	for _, r := range []struct {
		what string
		row  []byte
		end  int
		l    []api.Data
	}{
		{"all", cat(fa, fb, fc), 39, []api.Data{a, b, c}},
		{"e a byte more", cat(fa, fb, fc), 40, []api.Data{a, b, c}},
		{"e the row", cat(fa, fb, fc), 192, []api.Data{a, b, c}},
		{"e a byte less: the last one reaches behind it", cat(fa, fb, fc), 38, []api.Data{a, b}},
		{"e in the midst", cat(fa, fb, fc), 30, []api.Data{a, b}},
		{"e at the second one's end", cat(fa, fb, fc), 26, []api.Data{a, b}},
		{"e one less", cat(fa, fb, fc), 25, []api.Data{a}},
		{"e at the first one's end", cat(fa, fb, fc), 13, []api.Data{a}},
		{"e one less than the first", cat(fa, fb, fc), 12, nil},
		{"e 1", cat(fa, fb, fc), 1, nil},
		{"e 0", cat(fa, fb, fc), 0, nil},
		{"a frame of an age less", cat(fa, framed(6, b), fc), 39, []api.Data{a}},
		{"a frame of an age more", cat(fa, framed(8, b), fc), 39, []api.Data{a}},
		{"the first one of another age", cat(framed(5, a), fb, fc), 39, nil},
		{"ages that are alike in the lowest byte", cat(fa, framed(7+256, b), fc), 39, []api.Data{a}},
		{"ages that are alike but for the highest byte", cat(fa, framed(7+1<<24, b), fc), 39, []api.Data{a}},
		{"the age, its lowest byte first", cat(fa, bare(api.Data{Nums: []int{2}, Texts: []string{"\x07\x00\x00\x00"}}), fc), 39, []api.Data{a}},
		{"the age in five bytes", cat(fa, bare(api.Data{Texts: []string{"\x00\x00\x00\x00\x07"}}), fc), 60, []api.Data{a}},
		{"the age and a byte", cat(fa, bare(api.Data{Texts: []string{"\x00\x00\x00\x07\x00"}}), fc), 60, []api.Data{a}},
		{"the age in three bytes", cat(fa, bare(api.Data{Texts: []string{"\x00\x00\x07"}}), fc), 60, []api.Data{a}},
		{"an empty age", cat(fa, bare(api.Data{Texts: []string{""}}), fc), 60, []api.Data{a}},
		{"no text at all", cat(fa, bare(num(7)), fc), 60, []api.Data{a}},
		{"the age as the second text", cat(fa, bare(api.Data{Texts: []string{"b", "\x00\x00\x00\x07"}}), fc), 60, []api.Data{a}},
		{"the age twice", cat(fa, framed(7, api.Data{Texts: []string{"\x00\x00\x00\x07"}})), 60, []api.Data{a, {Texts: []string{"\x00\x00\x00\x07"}}}},
		{"a bit turned", cat(fa, turned, fc), 39, []api.Data{a}},
		{"a nought between", cat(fa, []byte{0}, fb, fc), 40, []api.Data{a}},
		{"noughts", nil, 192, nil},
		{"bytes that are no frame", bytes.Repeat([]byte{0xff}, 192), 192, nil},
		{"bytes that are no frame, behind one", cat(fa, bytes.Repeat([]byte{0x5A}, 179)), 192, []api.Data{a}},
		{"a head", cat(fa, head(7, 7, 0), fb), 36, []api.Data{a}},
		{"a frame cut at the row's end", cat(framed(7, long(100), long(60)), framed(7, long(40))[:32]), 192, []api.Data{long(100), long(60)}},
	} {
		wantOpened(t, openRow{r.what, disk(8, head(7, 7, r.end), r.row, nil, nil), false, 7, r.l})
		wantOpened(t, openRow{r.what + ", the second half", disk(8, head(7, 6, 13), framed(6, c), head(7, 7, r.end), r.row), true, 7, r.l})
	}
}

// A frame may go over sectors' ends, and end at the row's.
func TestOpenOfLongRows(t *testing.T) {
	for _, n := range []int{8, 64, 200, 8192} {
		for _, bytes := range []int{12, 63, 64, 65, 128, 129, rowOf(n) - 1, rowOf(n)} {
			l := many(bytes)
			h, row := framedHead(1<<24-1, l...)
			if len(row) != bytes {
				t.Fatalf("%d bytes, not %d", len(row), bytes)
			}
			wantOpened(t, openRow{fmt.Sprint(n, " sectors, ", bytes, " bytes"), disk(n, nil, nil, h, row), true, 1<<24 - 1, l})
		}
	}
}

// Behind the first e bytes anything may stand: it is no record, also where it would be one.
func TestOpenDoesNotLookBehindTheEnd(t *testing.T) {
	a, b := num(1), num(2)
	for _, behind := range [][]byte{framed(4, b), framed(3, b), bytes.Repeat([]byte{0xff}, 100)} {
		row := append(framed(4, a), behind...)
		wantOpened(t, openRow{"something behind", disk(8, head(7, 4, 13), row, nil, nil), false, 4, []api.Data{a}})
	}
}

// The row that is begun is written to the end of its last sector alone: behind it what was there stays.
func TestOpenLeavesTheRest(t *testing.T) {
	junk := bytes.Repeat([]byte{0xEE}, 192)
	h, row := framedHead(4, num(1))
	d := laid(t, disk(8, h, row, bytes.Repeat([]byte{0xEE}, size), junk))
	opened(t, d)
	wantImage(t, d, "a record", disk(8, h, row, head(7, 5, 13), append(filled(framed(5, num(1))), junk[size:]...)))
	d = laid(t, disk(8, head(7, 4, 0), row, bytes.Repeat([]byte{0xEE}, size), junk))
	opened(t, d)
	wantImage(t, d, "no record", disk(8, head(7, 4, 0), row, head(7, 5, 0), junk))
}

func TestOpenAgain(t *testing.T) {
	d := made(t, 8)
	for i := range 40 {
		j := opened(t, d)
		want(t, j, fmt.Sprint("time ", i), rowOf(8))
		h1, h2 := head(7, i+1, 0), head(7, i, 0)
		if i%2 == 1 {
			h1, h2 = h2, h1
		}
		if i == 0 {
			h2 = nil
		}
		wantImage(t, d, fmt.Sprint("time ", i), disk(8, h1, nil, h2, nil))
	}
	j := opened(t, d)
	add(t, j, num(1), num(2))
	j.Sync()
	add(t, j, num(3))
	// What was appended and not synced is not there, though it is seen.
	for i := range 5 {
		want(t, opened(t, d), fmt.Sprint("with records, time ", i), rowOf(8)-26, num(1), num(2))
	}
	want(t, j, "the one that was opened ahead", rowOf(8)-39, num(1), num(2), num(3))
}

// Of any bytes at all Open ends, and what it tells is what the slow one tells.
func TestOpenOfAnyBytes(t *testing.T) {
	c := chance(20261117)
	for i := range 3000 {
		n := one(&c, 8, 8, 10, 16)
		b := c.disk(n)
		d, s := laid(t, b), laid(t, b)
		j, e := journal.Open(d)
		sj, se := slowOpen(s)
		if e != se || (j != nil) != (sj != nil) {
			t.Fatalf("disk %d: Open: %v, error %d, want error %d", i, j != nil, e, se)
		}
		wantImage(t, d, fmt.Sprint("disk ", i), image(t, s))
		if sj != nil {
			want(t, j, fmt.Sprint("disk ", i), sj.left(), sj.l...)
		}
		if t.Failed() {
			t.FailNow()
		}
	}
}

// disk is bytes that are a journal's in part.
func (c *chance) disk(n int) []byte {
	half := func() ([]byte, []byte) {
		age := one(c, 1, 2, 3, 3, 4, oldest, oldest-1, 0, oldest+1)
		var row []byte
		for len(row) < rowOf(n) && c.below(6) > 0 {
			row = append(row, framed(age+one(c, 0, 0, 0, 0, 0, 0, 1, -1), c.data())...)
		}
		end := one(c, len(row), len(row), len(row), len(row)-1, c.below(rowOf(n)+1), rowOf(n), rowOf(n)+1)
		return filled(head(7, age, end)), row
	}
	h1, r1 := half()
	h2, r2 := half()
	b := disk(n, h1, r1, h2, r2)
	for range one(c, 0, 0, 0, 1, 1, 3, 40) {
		b[c.below(len(b))] ^= 1 << c.below(8)
	}
	if c.below(8) == 0 {
		return c.bytes(len(b))
	}
	return b
}
