package journal_test

import (
	"fmt"
	"strings"
	"testing"

	"windrose/api"
	"windrose/drum"
	"windrose/journal"
)

// act is something that is done with a journal: Append of some data, Sync, or Anew with some.
type act struct {
	kind byte // a, s or n
	l    []api.Data
}

// do tells whether the act is one that keeps the records, and was not refused.
func do(j *journal.Journal, a act) bool {
	switch a.kind {
	case 'a':
		for _, x := range a.l {
			j.Append(x)
		}
		return false
	case 's':
		j.Sync()
		return true
	}
	return j.Anew(a.l) == api.OK
}

// acts is a row of them whose frames go over sectors' ends, begin and end in their midst, and go from half to half.
func acts() []act {
	return []act{
		{'a', []api.Data{num(1)}}, {'s', nil}, {'a', []api.Data{num(2)}}, {'a', []api.Data{long(100)}}, {'s', nil}, {'s', nil},
		{'n', []api.Data{num(3), long(90), num(4)}}, {'a', []api.Data{long(40), num(5)}}, {'s', nil}, {'a', []api.Data{num(6)}},
		{'n', nil}, {'a', []api.Data{long(130)}}, {'s', nil}, {'a', []api.Data{long(62)}}, {'s', nil}, {'n', []api.Data{long(64)}}, {'a', []api.Data{num(7)}},
	}
}

// run does acts on a drum that is armed, till the power goes, and some more: it tells which records may be there then: those of the last Sync or beginning, and those of the one in which the power went.
func run(t *testing.T, d *drum.Drum, l []act, more int) [][]api.Data {
	t.Helper()
	j := opened(t, d)
	last := []api.Data(nil)
	for i, a := range l {
		if j.Gone() {
			for k := range more {
				do(j, l[(i+k)%len(l)])
			}
			return [][]api.Data{last}
		}
		if !do(j, a) {
			continue
		}
		if j.Gone() {
			for k := range more {
				do(j, l[(i+1+k)%len(l)])
			}
			if a.kind == 'n' {
				return [][]api.Data{last, a.l}
			}
			return [][]api.Data{last, synced(l[:i])}
		}
		last = j.Records()
	}
	return [][]api.Data{last}
}

// synced is what a Sync behind some acts keeps.
func synced(l []act) []api.Data {
	var r []api.Data
	for _, a := range l {
		switch a.kind {
		case 'a':
			r = append(r, a.l...)
		case 'n':
			r = a.l
		}
	}
	return r
}

// stands is the records of the journal that stands on a drum, told by one that is opened on another drum of the same bytes.
func stands(t *testing.T, d *drum.Drum) []api.Data {
	t.Helper()
	return opened(t, laid(t, image(t, d))).Records()
}

func shorts(l [][]api.Data) string {
	var s []string
	for _, r := range l {
		s = append(s, short(r))
	}
	return strings.Join(s, " or ")
}

func oneOf(l [][]api.Data, x []api.Data) bool {
	for _, r := range l {
		if same(r, x) {
			return true
		}
	}
	return false
}

// The power goes at each write of a row of acts, whatever is kept, and whatever is done behind that.
func TestPowerGoesAnywhere(t *testing.T) {
	l := acts()
	ends := 0
	for n := 0; ends < 2; n++ {
		for _, p := range patterns(5) {
			for _, more := range []int{0, 3} {
				d := made(t, 8)
				d.Arm(n)
				may := run(t, d, l, more)
				if !d.Gone() {
					ends++
				}
				d.Crash(p)
				d.Arm(-1)
				j := opened(t, d)
				if got := j.Records(); !oneOf(may, got) {
					t.Fatalf("%d writes count, crash %v: Records %s, want one of %s", n, p, short(got), shorts(may))
				}
				wantGoingOn(t, j, d)
			}
		}
	}
}

// wantGoingOn tells that a journal takes and keeps what is appended from then on.
func wantGoingOn(t *testing.T, j *journal.Journal, d *drum.Drum) {
	t.Helper()
	ahead := j.Records()
	if j.Append(num(99)) != api.OK {
		return
	}
	j.Sync()
	d.Crash(nil)
	if got := opened(t, d).Records(); !same(got, append(ahead, num(99))) {
		t.Fatalf("one more: Records %s, want %s and one", short(got), short(ahead))
	}
}

// It is found which of both was kept: where all writes of the Sync, or of the beginning, count, it is the later one; where none does, the one ahead.
func TestPowerGoesWhichOne(t *testing.T) {
	l := acts()
	for i, a := range l {
		if a.kind == 'a' {
			continue
		}
		begin := func(n int) (*drum.Drum, *journal.Journal) {
			d := made(t, 8)
			j := opened(t, d)
			for _, b := range l[:i] {
				do(j, b)
			}
			d.Arm(n)
			do(j, a)
			return d, j
		}
		d, _ := begin(0)
		d.Crash([]bool{true})
		before := []api.Data(nil)
		for k := range i {
			if l[k].kind != 'a' {
				before = synced(l[:k+1])
			}
		}
		want(t, opened(t, d), fmt.Sprint("act ", i, ", no write counts"), 192-len(framed(1, before...)), before...)
		d, j := begin(100)
		if j.Gone() {
			t.Fatal("gone")
		}
		d.Crash(nil)
		d.Arm(-1)
		after := synced(l[:i+1])
		want(t, opened(t, d), fmt.Sprint("act ", i, ", all writes count"), 192-len(framed(1, after...)), after...)
	}
}

// The power goes while it is opened, at each write, again and again: the records stay those that stood there.
func TestPowerGoesWhileOpened(t *testing.T) {
	l := acts()
	ps := patterns(4)
	for _, sectors := range []int{8, 12} {
		for n := 0; n < 34; n++ {
			for i, p := range ps {
				d := made(t, sectors)
				d.Arm(n)
				may := run(t, d, l, 0)
				d.Crash(p)
				stood := stands(t, d)
				if !oneOf(may, stood) {
					t.Fatalf("%d sectors, %d writes count, crash %v: Records %s, want one of %s", sectors, n, p, short(stood), shorts(may))
				}
				for k := range 7 {
					d.Arm(k % 6)
					j := opened(t, d)
					if got := j.Records(); !same(got, stood) {
						t.Fatalf("%d sectors, %d writes count, crash %v, opened %d times: Records %s, want %s", sectors, n, p, k, short(got), short(stood))
					}
					if k%2 == 1 {
						do(j, act{'a', []api.Data{num(77)}})
					}
					d.Crash(ps[(i*7+k*5)%len(ps)])
				}
				d.Arm(-1)
				want(t, opened(t, d), "at last", rowOf(sectors)-len(framed(1, stood...)), stood...)
			}
		}
	}
}

// On a drum of any bytes, too, what stood there stays, wherever the power goes while it is opened.
func TestPowerGoesOnAnyBytes(t *testing.T) {
	c := chance(99)
	for i := range 600 {
		b := c.disk(8)
		copied := laid(t, b)
		j, e := journal.Open(copied)
		if e != api.OK {
			continue
		}
		stood := j.Records()
		d := laid(t, b)
		for k := range 6 {
			d.Arm(c.below(5))
			j, e := journal.Open(d)
			if e != api.OK {
				// The last age was begun.
				break
			}
			if got := j.Records(); !same(got, stood) {
				t.Fatalf("disk %d, opened %d times: Records %s, want %s", i, k, short(got), short(stood))
			}
			d.Crash(c.pattern())
		}
	}
}

// Long drawn rows of acts, crashes and openings, by turns.
func TestPowerGoesAgainAndAgain(t *testing.T) {
	c := chance(31337)
	for round := range 300 {
		d := made(t, one(&c, 8, 10, 16, 30))
		j := opened(t, d)
		last := []api.Data(nil)
		for range 12 {
			d.Arm(one(&c, -1, c.below(4), c.below(12), c.below(40)))
			may := [][]api.Data{last}
			for range 1 + c.below(12) {
				ahead := j.Gone()
				a := act{one[byte](&c, 'a', 'a', 'a', 's', 's', 'n'), []api.Data{c.data()}}
				if !do(j, a) || ahead {
					continue
				}
				if j.Gone() {
					may = append(may, j.Records())
				} else {
					may = [][]api.Data{j.Records()}
				}
			}
			d.Crash(c.pattern())
			last = stands(t, d)
			if !oneOf(may, last) {
				t.Fatalf("round %d: Records %s, want one of %s", round, short(last), shorts(may))
			}
			for range c.below(4) {
				d.Arm(c.below(6))
				opened(t, d)
				d.Crash(c.pattern())
			}
			d.Arm(-1)
			j = opened(t, d)
			if got := j.Records(); !same(got, last) {
				t.Fatalf("round %d: opened anew: Records %s, want %s", round, short(got), short(last))
			}
		}
	}
}
