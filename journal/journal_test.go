package journal_test

import (
	"fmt"
	"slices"
	"strings"
	"testing"

	"windrose/api"
	"windrose/drum"
	"windrose/frame"
	"windrose/journal"
)

// Example 1 of the chapter: whatever was kept.
func TestExample(t *testing.T) {
	for _, p := range patterns(4) {
		d := made(t, 8)
		j := opened(t, d)
		add(t, j, num(1))
		j.Sync()
		add(t, j, num(2))
		want(t, j, "ahead of the crash", 192-26, num(1), num(2))
		d.Crash(p)
		want(t, opened(t, d), fmt.Sprint("crash ", p), 192-13, num(1))
	}
}

// Records and Left from call to call.
func TestRecordsAndLeft(t *testing.T) {
	d := made(t, 8)
	j := opened(t, d)
	want(t, j, "opened", 192)
	add(t, j, num(1))
	want(t, j, "one", 179, num(1))
	add(t, j, api.Data{})
	want(t, j, "an empty one", 167, num(1), api.Data{})
	j.Sync()
	want(t, j, "synced", 167, num(1), api.Data{})
	add(t, j, num(1))
	want(t, j, "one that is there already", 154, num(1), api.Data{}, num(1))
	wantError(t, "Append of what is too long for the row", j.Append(long(155)), api.ErrFull)
	wantError(t, "Append of what may not be", j.Append(api.Data{Texts: []string{strings.Repeat("x", 5000)}}), api.ErrLong)
	want(t, j, "behind two that are refused", 154, num(1), api.Data{}, num(1))
	anew(t, j, num(5), num(6))
	want(t, j, "begun anew", 166, num(5), num(6))
	wantError(t, "Anew of too much", j.Anew(many(193)), api.ErrFull)
	wantError(t, "Anew of what may not be", j.Anew([]api.Data{num(1), {Nums: make([]int, 5000)}}), api.ErrLong)
	want(t, j, "behind two that are refused", 166, num(5), num(6))
	add(t, j, num(7))
	want(t, j, "one more", 153, num(5), num(6), num(7))
	anew(t, j)
	want(t, j, "begun anew with nothing", 192)
	want(t, opened(t, d), "opened anew", 192)
}

// What a refused call leaves: no write, no sync, no record.
func TestRefused(t *testing.T) {
	over := api.Data{Nums: make([]int, 4089)}
	for what, r := range map[string]struct {
		call func(j *journal.Journal) api.Errno
		e    api.Errno
	}{
		"Append of too much":            {func(j *journal.Journal) api.Errno { return j.Append(long(180)) }, api.ErrFull},
		"Append of what may not be":     {func(j *journal.Journal) api.Errno { return j.Append(over) }, api.ErrLong},
		"Anew of too much":              {func(j *journal.Journal) api.Errno { return j.Anew([]api.Data{num(9), long(180)}) }, api.ErrFull},
		"Anew with one that may not be": {func(j *journal.Journal) api.Errno { return j.Anew([]api.Data{num(9), over}) }, api.ErrLong},
	} {
		d := made(t, 8)
		j := opened(t, d)
		add(t, j, num(1))
		ahead := image(t, d)
		d.Arm(0)
		wantError(t, what, r.call(j), r.e)
		wantImage(t, d, what, ahead)
		if d.Gone() || d.Pending() != 1 {
			t.Errorf("%s: Gone %v, Pending %d", what, d.Gone(), d.Pending())
		}
		d.Arm(-1)
		want(t, j, what, 179, num(1))
		add(t, j, num(2))
		j.Sync()
		wantImage(t, d, what+", and on", disk(8, head(7, 1, 26), framed(1, num(1), num(2)), nil, nil))
	}
}

// Data of 4091 bytes may be with the age, which has five; of one more they may be data, and with the age none.
func TestAppendLong(t *testing.T) {
	texts := func(n, last int) []string { return append(make([]string, n-1), strings.Repeat("x", last)) }
	for what, r := range map[string]struct {
		fits, over api.Data
	}{
		"a text":  {api.Data{Texts: texts(1, 4087)}, api.Data{Texts: texts(1, 4088)}},
		"numbers": {api.Data{Nums: make([]int, 4088)}, api.Data{Nums: make([]int, 4089)}},
		// The age is the 128th text: their count has a byte more.
		"texts": {api.Data{Texts: texts(127, 3960)}, api.Data{Texts: texts(127, 3961)}},
	} {
		if _, e := frame.Encode(r.over); e != api.OK || !mayBe(r.fits) || mayBe(r.over) {
			t.Fatalf("%s: not at the edge", what)
		}
		d := made(t, 200)
		j := opened(t, d)
		wantError(t, what+", one byte more", j.Append(r.over), api.ErrLong)
		want(t, j, what+", one byte more", rowOf(200))
		wantError(t, what, j.Append(r.fits), api.OK)
		want(t, j, what, rowOf(200)-4102, r.fits)
		wantError(t, what+", one byte more, anew", j.Anew([]api.Data{num(1), r.over}), api.ErrLong)
		want(t, j, what, rowOf(200)-4102, r.fits)
		wantError(t, what+", anew", j.Anew([]api.Data{num(1), r.fits}), api.OK)
		want(t, j, what+", anew", rowOf(200)-4115, num(1), r.fits)
		want(t, opened(t, d), what+", opened anew", rowOf(200)-4115, num(1), r.fits)
	}
	j := opened(t, made(t, 200))
	for what, x := range map[string]api.Data{
		"a long text": {Texts: []string{strings.Repeat("x", 1<<20)}}, "many numbers": {Nums: make([]int, 1<<20)}, "many texts": {Texts: make([]string, 1<<20)},
		"4097 bytes": {Texts: texts(1, 4093)},
	} {
		wantError(t, what, j.Append(x), api.ErrLong)
		wantError(t, what+", anew", j.Anew([]api.Data{x}), api.ErrLong)
	}
	want(t, j, "nothing", rowOf(200))
}

// What fits to the byte is taken, of one byte more nothing is.
func TestAppendFull(t *testing.T) {
	for _, n := range []int{8, 10, 16, 100} {
		row := rowOf(n)
		for _, ahead := range []int{0, 12, 63, 64, 65, 100, row - 100, row - 64, row - 63, row - 13, row - 12} {
			var l []api.Data
			if ahead > 0 {
				l = many(ahead)
			}
			what := fmt.Sprintf("%d sectors, %d bytes ahead", n, ahead)
			d := made(t, n)
			j := opened(t, d)
			add(t, j, l...)
			rest := row - ahead
			x := long(min(rest, 4000))
			if rest < 4000 {
				if rest+1 != 133 {
					wantError(t, what+", a byte more than is left", j.Append(long(rest+1)), api.ErrFull)
				}
				want(t, j, what, rest, l...)
			}
			wantError(t, what+", what is left", j.Append(x), api.OK)
			l = append(l, x)
			want(t, j, what+", what is left", max(0, rest-4000), l...)
			if rest < 4000 {
				wantError(t, what+", the least one behind all", j.Append(api.Data{}), api.ErrFull)
				want(t, j, what+", full", 0, l...)
			}
			j.Sync()
			wantImage(t, d, what, disk(n, head(7, 1, min(row, ahead+4000)), framed(1, l...), nil, nil))
			want(t, opened(t, d), what+", opened anew", max(0, rest-4000), l...)
		}
	}
}

// Where both could be, ErrLong comes ahead of ErrFull; and ErrFull of the age ahead of ErrLong.
func TestWhichErrorFirst(t *testing.T) {
	over := api.Data{Nums: make([]int, 4089)}
	d := made(t, 8)
	j := opened(t, d)
	add(t, j, many(192)...)
	wantError(t, "Append of what may not be to a full row", j.Append(over), api.ErrLong)
	wantError(t, "Append of what may be to a full row", j.Append(api.Data{Nums: make([]int, 4088)}), api.ErrFull)
	for _, l := range [][]api.Data{{over}, {over, long(193)}, {long(193), over}, append(many(400), over), append(many(192), over), {num(1), long(300), num(2), over, long(300)}} {
		wantError(t, "Anew of too much, and of what may not be", j.Anew(l), api.ErrLong)
	}
	wantError(t, "Anew of too much", j.Anew([]api.Data{num(1), long(300), num(2)}), api.ErrFull)
	want(t, j, "full", 0, many(192)...)

	h, row := framedHead(oldest-1, num(1))
	d = laid(t, disk(8, h, row, nil, nil))
	j = opened(t, d)
	ahead := image(t, d)
	d.Arm(0)
	for _, l := range [][]api.Data{nil, {}, {num(1)}, {over}, {long(193), over}, many(193)} {
		wantError(t, "Anew at the last age", j.Anew(l), api.ErrFull)
	}
	wantImage(t, d, "Anew at the last age", ahead)
	if d.Gone() {
		t.Error("Anew at the last age wrote")
	}
	wantError(t, "Append of what may not be, at the last age", j.Append(over), api.ErrLong)
}

// At the age 2^31 - 1 a journal goes on, but is begun anew no more.
func TestLastAge(t *testing.T) {
	h, row := framedHead(oldest-1, num(1))
	d := laid(t, disk(8, nil, nil, h, row))
	j := opened(t, d)
	want(t, j, "the last age", 179, num(1))
	add(t, j, num(2))
	j.Sync()
	wantError(t, "Anew", j.Anew(nil), api.ErrFull)
	add(t, j, num(3))
	want(t, j, "the last age", 153, num(1), num(2), num(3))
	must := disk(8, head(7, oldest, 26), framed(oldest, num(1), num(2), num(3)), h, row)
	wantImage(t, d, "the last age", must)
	if k, e := journal.Open(d); k != nil || e != api.ErrFull {
		t.Errorf("Open: %v, error %d", k != nil, e)
	}
	j.Sync()
	want(t, j, "the last age, behind an Open that was refused", 153, num(1), num(2), num(3))
	copy(must, filled(head(7, oldest, 39)))
	wantImage(t, d, "the last age, synced", must)
}

// Anew of what fits to the byte, and of one byte more; of no records.
func TestAnewFull(t *testing.T) {
	for _, n := range []int{8, 10, 64, 200} {
		row := rowOf(n)
		d := made(t, n)
		j := opened(t, d)
		wantError(t, fmt.Sprint(n, " sectors, a byte more than a row"), j.Anew(many(row+1)), api.ErrFull)
		want(t, j, fmt.Sprint(n, " sectors, refused"), row)
		wantImage(t, d, fmt.Sprint(n, " sectors, refused"), disk(n, head(7, 1, 0), nil, nil, nil))
		wantError(t, fmt.Sprint(n, " sectors, a row"), j.Anew(many(row)), api.OK)
		want(t, j, fmt.Sprint(n, " sectors, a row"), 0, many(row)...)
		wantImage(t, d, fmt.Sprint(n, " sectors, a row"), disk(n, head(7, 1, 0), nil, head(7, 2, row), framed(2, many(row)...)))
		wantError(t, fmt.Sprint(n, " sectors, a byte more, again"), j.Anew(many(row+1)), api.ErrFull)
		want(t, j, fmt.Sprint(n, " sectors, refused again"), 0, many(row)...)
		wantError(t, fmt.Sprint(n, " sectors, a byte less"), j.Anew(many(row-1)), api.OK)
		want(t, j, fmt.Sprint(n, " sectors, a byte less"), 1, many(row-1)...)
		// Smaller ones behind the one that is too much do not make it fit.
		wantError(t, fmt.Sprint(n, " sectors, too much in the midst"), j.Anew(slices.Concat(many(row-20), []api.Data{long(21), api.Data{}})), api.ErrFull)
		anew(t, j)
		want(t, j, fmt.Sprint(n, " sectors, none"), row)
		wantError(t, "Append of the least one", j.Append(api.Data{}), api.OK)
		want(t, j, fmt.Sprint(n, " sectors, the least one"), row-12, api.Data{})
	}
	j := opened(t, made(t, 8192))
	wantError(t, "a byte more than the greatest row", j.Anew(many(262081)), api.ErrFull)
	wantError(t, "the greatest row", j.Anew(many(262080)), api.OK)
	want(t, j, "the greatest row", 0, many(262080)...)
}

// Gone is the drum's, whatever the journal did.
func TestGone(t *testing.T) {
	d := made(t, 8)
	j := opened(t, d)
	gone := func(what string, must bool) {
		t.Helper()
		if j.Gone() != must || d.Gone() != must {
			t.Errorf("%s: Gone %v, want %v", what, j.Gone(), must)
		}
	}
	gone("opened", false)
	d.Arm(1)
	add(t, j, num(1))
	gone("one write", false)
	j.Sync()
	gone("the head", true)
	add(t, j, num(2))
	anew(t, j, num(3))
	gone("on and on", true)
	want(t, j, "what is of no account is seen", 179, num(3))
	d.Crash(nil)
	gone("a crash", false)
	want(t, j, "behind a crash", 179, num(3))
	want(t, opened(t, d), "opened anew", 192)
	d.Arm(0)
	k := opened(t, d)
	if !k.Gone() {
		t.Error("opened while the power went: not gone")
	}
	want(t, k, "opened while the power went", 192)
	gone("both", true)
	d.Wipe()
	gone("wiped", false)
	want(t, opened(t, d), "opened, wiped", 192)
	wantImage(t, d, "opened, wiped", disk(8, head(7, 1, 0), nil, nil, nil))
}

// What is there when the drum is opened anew: what was synced, and not what was appended since, whether there was a crash or not.
func TestSyncedOrNot(t *testing.T) {
	for synced := range 6 {
		for _, crash := range []bool{false, true} {
			d := made(t, 8)
			j := opened(t, d)
			var l []api.Data
			for i := range 6 {
				if i == synced {
					j.Sync()
				}
				add(t, j, num(i))
				if i < synced {
					l = append(l, num(i))
				}
			}
			if crash {
				d.Crash([]bool{true})
			}
			want(t, opened(t, d), fmt.Sprint(synced, " synced, crash ", crash), 192-13*synced, l...)
		}
	}
}

// Of a Journal that Open did not give, and of none at all: none, and ErrArg, whatever it is asked.
func TestNotGiven(t *testing.T) {
	for what, j := range map[string]*journal.Journal{"nil": nil, "zero": {}, "new": new(journal.Journal)} {
		for range 3 {
			want(t, j, what, 0)
			for _, x := range []api.Data{{}, num(1), {Nums: make([]int, 5000)}} {
				wantError(t, what+": Append", j.Append(x), api.ErrArg)
				wantError(t, what+": Anew", j.Anew([]api.Data{x}), api.ErrArg)
			}
			wantError(t, what+": Anew of none", j.Anew(nil), api.ErrArg)
			j.Sync()
			if j.Gone() {
				t.Errorf("%s: Gone", what)
			}
		}
	}
}

// Two drums' journals have nothing to do with each other.
func TestTwoJournals(t *testing.T) {
	d1, d2 := made(t, 8), made(t, 10)
	a, b := opened(t, d1), opened(t, d2)
	add(t, a, num(1))
	add(t, b, num(2))
	a.Sync()
	add(t, b, num(3))
	anew(t, a, num(4))
	want(t, a, "one", 179, num(4))
	want(t, b, "the other one", 256-26, num(2), num(3))
	d2.Crash(nil)
	want(t, opened(t, d1), "one, opened anew", 179, num(4))
	want(t, opened(t, d2), "the other one, opened anew", 256)
}

// Rows of all sizes that the drum can have are taken up to their end, and told by Left.
func TestSizes(t *testing.T) {
	for n := 8; n <= 8192; n += 2 + n/3/2*2 {
		d, e := drum.New(n)
		if e != api.OK {
			t.Fatal(n)
		}
		j := opened(t, d)
		left := rowOf(n)
		for i := 0; left >= 13 && i < 200; i++ {
			add(t, j, num(i%60))
			left -= 13
			if j.Left() != left {
				t.Fatalf("%d sectors: Left %d, want %d", n, j.Left(), left)
			}
		}
		if left < 13 {
			wantError(t, fmt.Sprint(n, " sectors: full"), j.Append(num(1)), api.ErrFull)
		}
	}
}
