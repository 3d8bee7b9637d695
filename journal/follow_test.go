package journal_test

import (
	"fmt"
	"strings"
	"testing"

	"windrose/api"
	"windrose/drum"
	"windrose/journal"
)

// pair is a journal and the slow one, on drums that all else is done to alike.
type pair struct {
	j *journal.Journal
	d *drum.Drum
	s *slow
	b *drum.Drum
}

// alike holds the one against the other.
func (p *pair) alike(t *testing.T, what string) {
	t.Helper()
	wantImage(t, p.d, what, image(t, p.b))
	if p.d.Pending() != p.b.Pending() || p.d.Gone() != p.b.Gone() || p.j.Gone() != p.b.Gone() {
		t.Errorf("%s: Pending %d, Gone %v, want %d, %v", what, p.d.Pending(), p.d.Gone(), p.b.Pending(), p.b.Gone())
	}
	if p.s != nil {
		want(t, p.j, what, p.s.left(), p.s.l...)
	}
	if t.Failed() {
		t.FailNow()
	}
}

// open opens both anew.
func (p *pair) open(t *testing.T, what string) {
	t.Helper()
	j, e := journal.Open(p.d)
	s, se := slowOpen(p.b)
	if e != se || (j != nil) != (s != nil) {
		t.Fatalf("%s: Open: %v, error %d, want error %d", what, j != nil, e, se)
	}
	p.j, p.s = j, s
	p.alike(t, what)
}

// each does something to both drums.
func (p *pair) each(call func(d *drum.Drum)) {
	call(p.d)
	call(p.b)
}

// drawn is data: of any size, of what fits to the byte, and near to it, and of what may not be.
func (p *pair) drawn(c *chance) api.Data {
	left := p.s.left()
	switch n := c.below(12); {
	case n < 7:
		return c.data()
	case n < 9 && left >= 13 && left < 4000 && left != 133 && left != 134:
		return long(left + one(c, 0, 0, -1))
	case n == 9 && left >= 12 && left < 4000 && left != 132:
		return long(left + 1)
	case n == 10:
		return api.Data{Texts: []string{strings.Repeat("y", one(c, 4087, 4088, 4093, 5000))}}
	}
	return num(c.below(100))
}

func (p *pair) step(t *testing.T, c *chance, what string) {
	t.Helper()
	switch c.below(16) {
	case 0, 1, 2, 3, 4, 5, 6:
		x := p.drawn(c)
		wantError(t, what+": Append", p.j.Append(x), p.s.append(x))
	case 7, 8, 9:
		p.j.Sync()
		p.s.sync()
	case 10, 11:
		var l []api.Data
		for range c.below(5) {
			l = append(l, p.drawn(c))
		}
		wantError(t, what+": Anew", p.j.Anew(l), p.s.anew(l))
	case 12:
		l := p.j.Records()
		l = l[:c.below(len(l)+1)]
		wantError(t, what+": Anew of the first of its own", p.j.Anew(l), p.s.anew(l))
	case 13:
		n := one(c, -1, c.below(3), c.below(20))
		p.each(func(d *drum.Drum) { d.Arm(n) })
	case 14:
		pattern := c.pattern()
		p.each(func(d *drum.Drum) { d.Crash(pattern) })
		p.open(t, what+": a crash")
	default:
		p.open(t, what+": opened again")
	}
	p.alike(t, what)
}

// TestFollow: by drawn acts a journal tells, writes and syncs what the chapter's words say.
func TestFollow(t *testing.T) {
	c := chance(777)
	for round := range 120 {
		n := one(&c, 8, 8, 10, 14, 40, 200)
		p := &pair{d: made(t, n), b: made(t, n)}
		p.open(t, fmt.Sprint("round ", round))
		for i := range 150 {
			p.step(t, &c, fmt.Sprint("round ", round, ", act ", i))
		}
	}
}
