package journal_test

import (
	"bytes"
	"fmt"
	"slices"
	"testing"

	"windrose/api"
	"windrose/drum"
	"windrose/journal"
)

// step is a write of one sector, or, of no bytes, a sync.
type step struct {
	at int
	b  []byte
}

// sync is the step that keeps what was written ahead.
var sync = step{}

// writes are the steps that write bytes, filled with noughts, from a sector on.
func writes(at int, b []byte) []step {
	var l []step
	for i, p := range slices.Collect(slices.Chunk(filled(b), size)) {
		l = append(l, step{at + i, p})
	}
	return l
}

// does is what an act did ahead of the write at which the power goes, behind n others, on bytes that are seen and bytes that are kept.
func does(seen, kept []byte, l []step, n int) ([]byte, []byte, bool) {
	seen, kept = slices.Clone(seen), slices.Clone(kept)
	for _, s := range l {
		if s.b == nil {
			kept = slices.Clone(seen)
			continue
		}
		if n == 0 {
			return seen, kept, true
		}
		n--
		copy(seen[s.at*size:], s.b)
	}
	return seen, kept, false
}

// crashed is the bytes of a drum behind a crash.
func crashed(t *testing.T, d *drum.Drum, p []bool) []byte {
	t.Helper()
	d.Crash(p)
	return image(t, d)
}

// wantSteps holds what an act does on the drum that begin gives against steps: the power goes at each of its writes; what was written till then is seen behind a crash that keeps all, what was synced behind one that keeps nothing.
func wantSteps(t *testing.T, what string, begin func() (*drum.Drum, func()), l []step) {
	t.Helper()
	d, _ := begin()
	seen := image(t, d)
	kept := crashed(t, d, nil)
	count := 0
	for _, s := range l {
		if s.b != nil {
			count++
		}
	}
	for n := range count + 2 {
		all, synced, gone := does(seen, kept, l, n)
		for _, r := range []struct {
			p    []bool
			must []byte
		}{{[]bool{true}, all}, {nil, synced}} {
			d, act := begin()
			d.Arm(n)
			act()
			if d.Gone() != gone {
				t.Errorf("%s, %d writes count: Gone %v, want %v", what, n, d.Gone(), gone)
			}
			d.Crash(r.p)
			wantImage(t, d, fmt.Sprintf("%s, %d writes count, all kept: %v", what, n, r.p != nil), r.must)
		}
	}
}

// junk is bytes that no journal writes.
func junk(n int) []byte { return bytes.Repeat([]byte{0xEE}, n) }

// spoil lays junk on sectors behind a journal's back, so that it is seen which ones it writes, though they be as they were. It is synced.
func spoil(d *drum.Drum, at, n int) {
	d.Write(at, junk(n*size))
	d.Sync()
}

// All sectors are written from the one on where the frame begins, in order, and none is synced; what was ahead of it in the first one is written again, noughts are behind it in the last one, and the other sectors are as they were.
func TestAppendSteps(t *testing.T) {
	for _, r := range []struct{ ahead, n int }{
		{0, 12}, {0, 13}, {0, 63}, {0, 64}, {0, 65}, {0, 128}, {0, 129}, {0, 191}, {0, 192},
		{12, 12}, {40, 23}, {40, 24}, {40, 25}, {40, 88}, {40, 89}, {40, 152}, {52, 12}, {51, 12}, {53, 12}, {63, 12}, {63, 65}, {63, 66},
		{64, 12}, {64, 64}, {64, 65}, {64, 128}, {65, 12}, {100, 28}, {100, 29}, {100, 92}, {128, 64}, {128, 12}, {180, 12}, {179, 12}, {127, 65}, {127, 64},
	} {
		var l []api.Data
		if r.ahead > 0 {
			l = many(r.ahead)
		}
		x := long(r.n)
		begin := func(synced bool) func() (*drum.Drum, func()) {
			return func() (*drum.Drum, func()) {
				d := laid(t, junk(8*size))
				j := opened(t, d)
				add(t, j, l...)
				if synced {
					j.Sync()
				}
				return d, func() { add(t, j, x) }
			}
		}
		from := r.ahead / size
		must := writes(1+from, framed(1, append(l, x)...)[from*size:])
		wantSteps(t, fmt.Sprintf("Append of %d bytes behind %d", r.n, r.ahead), begin(false), must)
		wantSteps(t, fmt.Sprintf("Append of %d bytes behind %d, synced", r.n, r.ahead), begin(true), must)
	}
}

// What is appended behind an Anew, or an Open, stands in the half that is in use then.
func TestAppendStepsOfTheSecondHalf(t *testing.T) {
	wantSteps(t, "behind Anew", func() (*drum.Drum, func()) {
		d := made(t, 12)
		j := opened(t, d)
		add(t, j, num(1))
		anew(t, j, num(2), num(3))
		return d, func() { add(t, j, long(60), num(4)) }
	}, slices.Concat(writes(7, framed(2, num(2), num(3), long(60))), writes(8, framed(2, num(2), num(3), long(60), num(4))[64:])))
	wantSteps(t, "behind a second Open", func() (*drum.Drum, func()) {
		d := made(t, 12)
		j := opened(t, d)
		add(t, j, num(1))
		j.Sync()
		j = opened(t, d)
		return d, func() { add(t, j, num(4)) }
	}, writes(7, framed(2, num(1), num(4))))
}

// Sync syncs, writes the head, and syncs, also where nothing was appended, and again.
func TestSyncSteps(t *testing.T) {
	l := []api.Data{num(1), long(100), num(2)}
	wantSteps(t, "Sync of what was appended", func() (*drum.Drum, func()) {
		d := made(t, 8)
		j := opened(t, d)
		add(t, j, l...)
		return d, j.Sync
	}, slices.Concat([]step{sync}, writes(0, head(7, 1, 126)), []step{sync}))
	wantSteps(t, "Sync of nothing", func() (*drum.Drum, func()) {
		d := made(t, 8)
		j := opened(t, d)
		spoil(d, 0, 1)
		return d, j.Sync
	}, slices.Concat([]step{sync}, writes(0, head(7, 1, 0)), []step{sync}))
	wantSteps(t, "Sync twice, and thrice", func() (*drum.Drum, func()) {
		d := made(t, 8)
		j := opened(t, d)
		add(t, j, l...)
		j.Sync()
		spoil(d, 0, 1)
		return d, func() { j.Sync(); j.Sync() }
	}, slices.Concat(writes(0, head(7, 1, 126)), []step{sync}, writes(0, head(7, 1, 126)), []step{sync}))
	wantSteps(t, "Sync of the second half", func() (*drum.Drum, func()) {
		d := made(t, 8)
		j := opened(t, d)
		add(t, j, l...)
		anew(t, j, num(5))
		add(t, j, num(6))
		spoil(d, 4, 1)
		return d, j.Sync
	}, slices.Concat([]step{sync}, writes(4, head(7, 2, 26)), []step{sync}))
}

// Anew writes the other half's row, in order, syncs, writes its head, and syncs; the half that was in use is as it was.
func TestAnewSteps(t *testing.T) {
	for _, n := range []int{0, 12, 63, 64, 65, 128, 129, 192} {
		var l []api.Data
		if n > 0 {
			l = many(n)
		}
		wantSteps(t, fmt.Sprint("Anew of ", n, " bytes, to the second half"), func() (*drum.Drum, func()) {
			d := laid(t, junk(8*size))
			j := opened(t, d)
			add(t, j, num(1))
			j.Sync()
			add(t, j, num(2))
			return d, func() { anew(t, j, l...) }
		}, slices.Concat(writes(5, framed(2, l...)), []step{sync}, writes(4, head(7, 2, n)), []step{sync}))
		wantSteps(t, fmt.Sprint("Anew of ", n, " bytes, to the first half"), func() (*drum.Drum, func()) {
			d := laid(t, junk(8*size))
			j := opened(t, d)
			anew(t, j, num(1))
			add(t, j, num(2))
			spoil(d, 0, 4)
			return d, func() { anew(t, j, l...) }
		}, slices.Concat(writes(1, framed(3, l...)), []step{sync}, writes(0, head(7, 3, n)), []step{sync}))
	}
}

// Open does what Anew does, with the records that it finds.
func TestOpenSteps(t *testing.T) {
	for _, n := range []int{0, 12, 64, 65, 129, 192} {
		var l []api.Data
		if n > 0 {
			l = many(n)
		}
		h, row := framedHead(41, l...)
		for _, r := range []struct {
			what string
			disk []byte
			at   int
		}{
			{"the second half in use", disk(8, junk(size), junk(192), h, row), 0},
			{"the first half in use", disk(8, h, row, junk(size), junk(192)), 4},
			{"an older half beside", disk(8, h, row, head(7, 40, 12), framed(40, api.Data{})), 4},
			{"a half of the same age beside", disk(8, h, row, head(7, 41, 12), framed(41, api.Data{})), 4},
		} {
			must := slices.Concat(writes(r.at+1, framed(42, l...)), []step{sync}, writes(r.at, head(7, 42, n)), []step{sync})
			wantSteps(t, fmt.Sprint("Open with ", n, " bytes, ", r.what), func() (*drum.Drum, func()) {
				d := laid(t, r.disk)
				return d, func() { journal.Open(d) }
			}, must)
		}
	}
	wantSteps(t, "Open of a drum of noughts", func() (*drum.Drum, func()) {
		d := made(t, 8)
		return d, func() { journal.Open(d) }
	}, slices.Concat(writes(0, head(7, 1, 0)), []step{sync}))
	wantSteps(t, "Open of junk", func() (*drum.Drum, func()) {
		d := laid(t, junk(8*size))
		return d, func() { journal.Open(d) }
	}, slices.Concat(writes(0, head(7, 1, 0)), []step{sync}))
}

// Open goes by what is seen, synced or not; its first sync keeps that, too.
func TestOpenOfWhatIsNotSynced(t *testing.T) {
	h, row := framedHead(3, num(1))
	begin := func() (*drum.Drum, func()) {
		d := made(t, 8)
		d.Write(4, filled(h))
		d.Write(5, filled(row))
		return d, func() { journal.Open(d) }
	}
	wantSteps(t, "Open of what is not synced", begin, slices.Concat(writes(1, framed(4, num(1))), []step{sync}, writes(0, head(7, 4, 13)), []step{sync}))
}

// Records, Left and Gone write nothing, and sync nothing.
func TestTellingDoesNothing(t *testing.T) {
	wantSteps(t, "telling", func() (*drum.Drum, func()) {
		d := made(t, 8)
		j := opened(t, d)
		add(t, j, num(1))
		return d, func() { j.Records(); j.Left(); j.Gone() }
	}, nil)
}
