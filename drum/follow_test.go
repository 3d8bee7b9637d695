package drum_test

import (
	"fmt"
	"math"
	"slices"
	"testing"

	"windrose/api"
	"windrose/drum"
)

// event is a write of one sector, since what is synced.
type event struct {
	sector int
	page   int
	counts bool
}

// slow is a drum by the chapter's words: what is synced, and all writes since, of which what is seen is reckoned anew each time.
type slow struct {
	synced []int
	since  []event
	armed  int // below 0: not
	gone   bool
}

func (s *slow) seen() []int {
	l := slices.Clone(s.synced)
	for _, e := range s.since {
		l[e.sector] = e.page
	}
	return l
}

func (s *slow) write(at int, l []int) {
	for i, x := range l {
		if s.armed == 0 && !s.gone {
			s.gone = true
		}
		s.since = append(s.since, event{at + i, x, !s.gone})
		s.armed--
		s.armed = max(s.armed, -1)
	}
}

func (s *slow) counting() []event {
	return slices.DeleteFunc(slices.Clone(s.since), func(e event) bool { return !e.counts })
}

func (s *slow) sync() {
	if !s.gone {
		s.synced, s.since = s.seen(), nil
	}
}

// crash looks, for each sector, for the last write that is kept, from the end on.
func (s *slow) crash(p []bool) {
	l := s.counting()
	for at := range s.synced {
		for i := len(l) - 1; i >= 0; i-- {
			if l[i].sector == at && len(p) > 0 && p[i%len(p)] {
				s.synced[at] = l[i].page
				break
			}
		}
	}
	s.since, s.gone = nil, false
}

func (s *slow) arm(n int) {
	if !s.gone {
		s.armed = max(n, -1)
	}
}

func (s *slow) wipe() { *s = slow{synced: make([]int, len(s.synced)), armed: -1} }

func (s *slow) text() string {
	return fmt.Sprint(len(s.synced), len(s.counting()), s.gone, s.seen())
}

// may is what each sector may be behind a crash: as it was synced, or as it was written since by a write that counts.
func (s *slow) may() [][]int {
	l := make([][]int, len(s.synced))
	for at, x := range s.synced {
		l[at] = []int{x}
	}
	for _, e := range s.counting() {
		l[e.sector] = append(l[e.sector], e.page)
	}
	return l
}

func (c *chance) pattern() []bool {
	l := make([]bool, one(c, 0, 1, 1, 2, 3, 5, 8, 40))
	for i := range l {
		l[i] = c.below(2) == 0
	}
	return l
}

// act does one thing to both drums, and says what.
func act(t *testing.T, c *chance, d *drum.Drum, s *slow) string {
	sectors := len(s.synced)
	switch k := c.below(20); {
	case k < 11:
		at, l := c.below(sectors+1), make([]int, one(c, 0, 1, 1, 1, 2, 3, sectors))
		for i := range l {
			l[i] = c.below(256)
		}
		must := api.OK
		if c.below(12) == 0 {
			at = one(c, -1, -sectors, sectors, math.MinInt, math.MaxInt)
		}
		if len(l) > 0 && (at < 0 || at > sectors || at+len(l) > sectors) {
			must = api.ErrNone
		}
		if e := d.Write(at, pages(l...)); e != must {
			t.Fatalf("Write(%d, %v): error %d, want %d", at, l, e, must)
		}
		if must == api.OK {
			s.write(at, l)
		}
		return "Write"
	case k < 14:
		d.Sync()
		s.sync()
		return "Sync"
	case k < 17:
		n := one(c, -1, 0, 1, 2, 3, 5, 9, 20, math.MaxInt, math.MinInt)
		d.Arm(n)
		s.arm(n)
		return "Arm"
	case k < 19 || c.below(4) > 0:
		p := c.pattern()
		d.Crash(p)
		s.crash(p)
		return "Crash"
	}
	d.Wipe()
	s.wipe()
	return "Wipe"
}

// Drawn acts on a drum, and on one by the chapter's words.
func TestDrawnActs(t *testing.T) {
	for _, seed := range []chance{88172645463325252, 2463534242} {
		c := seed
		done := map[string]int{}
		for range 200 {
			d := made(t, one(&c, 8, 8, 10, 16))
			s := &slow{synced: make([]int, d.Sectors()), armed: -1}
			for range 120 {
				gone := s.gone
				what := act(t, &c, d, s)
				done[what]++
				if gone {
					done[what+" once the power is gone"]++
				}
				if state(t, d) != s.text() {
					t.Fatalf("behind %s: %s, want %s", what, state(t, d), s.text())
				}
			}
		}
		for _, what := range []string{"Write", "Sync", "Arm", "Crash", "Wipe"} {
			if done[what] < 60 || done[what+" once the power is gone"] < 20 {
				t.Errorf("%s: %d times, %d of them once the power is gone: too few to tell", what, done[what], done[what+" once the power is gone"])
			}
		}
	}
}

// Dm3: each sector is, behind any crash, as it was synced, or as it was written since, whole; and a crash that keeps nothing leaves what is synced, one that keeps all the last writes that count.
func TestWhatFollowsOfACrash(t *testing.T) {
	c := chance(2463534242)
	both := 0
	for range 5000 {
		d := made(t, one(&c, 8, 12))
		s := &slow{synced: make([]int, d.Sectors()), armed: -1}
		for range 5 + c.below(40) {
			act(t, &c, d, s)
		}
		may := s.may()
		p := c.pattern()
		d.Crash(p)
		for at, x := range numbers(t, d) {
			if !slices.Contains(may[at], x) {
				t.Fatalf("sector %d is %d behind a crash, of %v", at, x, may[at])
			}
			if len(may[at]) > 2 {
				both++
			}
			if last := may[at][len(may[at])-1]; len(p) == 1 && p[0] && x != last || len(p) == 0 && x != may[at][0] {
				t.Fatalf("sector %d is %d behind a crash of %v, of %v", at, x, p, may[at])
			}
		}
	}
	if both < 500 {
		t.Errorf("%d sectors written more than once: too few to tell", both)
	}
}

// A drum of the most sectors, written from end to end more than once, does what a small one does.
func TestTheGreatestDrum(t *testing.T) {
	d := made(t, 8192)
	l := make([]int, 8192)
	for i := range l {
		l[i] = 1 + i%250
	}
	write(t, d, 0, l...)
	d.Sync()
	d.Arm(12000)
	slices.Reverse(l)
	write(t, d, 0, l...)
	if d.Pending() != 8192 || d.Gone() {
		t.Errorf("Pending %d, Gone %v", d.Pending(), d.Gone())
	}
	write(t, d, 0, make([]int, 8192)...)
	if d.Pending() != 12000 || !d.Gone() {
		t.Errorf("Pending %d, Gone %v", d.Pending(), d.Gone())
	}
	d.Crash(pattern("ynn"))
	for at, x := range numbers(t, d) {
		must := 1 + at%250
		if at%3 == 0 {
			must = l[at]
		}
		if i := 8192 + at; i < 12000 && i%3 == 0 {
			must = 0
		}
		if x != must {
			t.Fatalf("sector %d is %d, want %d", at, x, must)
		}
	}
}
