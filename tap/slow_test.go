package tap_test

import (
	"fmt"
	"slices"
	"testing"

	"windrose/api"
	"windrose/tap"
)

// inside is one that is in a tap: its pipe, and the number.
type inside struct{ pipe, n int }

// slow is a tap by the chapter's words: all that is in it in one row, as it went in, and who was drawn from by Nexts.
type slow struct {
	pipes, room int
	row         []inside
	drawn       []int
}

func (s *slow) count(pipe int) int {
	n := 0
	for _, x := range s.row {
		if x.pipe == pipe {
			n++
		}
	}
	return n
}

func (s *slow) counts() []int {
	var l []int
	for pipe := range s.pipes {
		l = append(l, s.count(pipe))
	}
	return l
}

func (s *slow) put(pipe, n int) api.Errno {
	switch {
	case pipe < 0 || pipe >= s.pipes:
		return api.ErrArg
	case s.count(pipe) == s.room:
		return api.ErrFull
	}
	s.row = append(s.row, inside{pipe, n})
	return api.OK
}

func (s *slow) take(pipe int) (int, api.Errno) {
	if pipe < 0 || pipe >= s.pipes {
		return 0, api.ErrArg
	}
	at := slices.IndexFunc(s.row, func(x inside) bool { return x.pipe == pipe })
	if at < 0 {
		return 0, api.ErrNone
	}
	n := s.row[at].n
	s.row = slices.Delete(s.row, at, at+1)
	return n, api.OK
}

func (s *slow) next() (int, int, api.Errno) {
	pipe := 0
	if len(s.drawn) > 0 {
		pipe = s.drawn[len(s.drawn)-1] + 1
	}
	for range s.pipes {
		if pipe == s.pipes {
			pipe = 0
		}
		if n, e := s.take(pipe); e == api.OK {
			s.drawn = append(s.drawn, pipe)
			return pipe, n, e
		}
		pipe++
	}
	return -1, 0, api.ErrNone
}

func (s *slow) spread(n int) (int, api.Errno) {
	for least := range s.room {
		for pipe := range s.pipes {
			if s.count(pipe) == least {
				return pipe, s.put(pipe, n)
			}
		}
	}
	return -1, api.ErrFull
}

// act does one thing to both taps, and says what, and what both of them told.
func act(c *chance, p *tap.Tap, s *slow, n int) (what, got, must string) {
	pipe := c.below(s.pipes)
	if c.below(25) == 0 {
		pipe = one(c, noPipes(s.pipes)...)
	}
	if c.below(10) == 0 {
		n = one(c, anyNumbers()...)
	}
	switch k := c.below(10); {
	case k < 3:
		e := p.Put(pipe, n)
		return fmt.Sprint("Put ", e), fmt.Sprint(e), fmt.Sprint(s.put(pipe, n))
	case k < 5:
		x, e := p.Take(pipe)
		return fmt.Sprint("Take ", e), fmt.Sprint(x, e), fmt.Sprint(s.take(pipe))
	case k < 8:
		at, x, e := p.Next()
		return fmt.Sprint("Next ", e), fmt.Sprint(at, x, e), fmt.Sprint(s.next())
	}
	at, e := p.Spread(n)
	return fmt.Sprint("Spread ", e), fmt.Sprint(at, e), fmt.Sprint(s.spread(n))
}

// lean does more of the same a few times over, so that a tap is full, or empty, at times.
func lean(c *chance, p *tap.Tap, s *slow, n int) (got, must string) {
	up := c.below(2) == 0
	for i := range c.below(2 * s.pipes * s.room) {
		if up {
			at, e := p.Spread(n + i)
			got += fmt.Sprint(at, e, " ")
			must += fmt.Sprint(s.spread(n+i)) + " "
			continue
		}
		at, x, e := p.Next()
		got += fmt.Sprint(at, x, e, " ")
		must += fmt.Sprint(s.next()) + " "
	}
	return got, must
}

// Drawn acts on a tap, and on one by the chapter's words: they tell the same.
func TestDrawnActs(t *testing.T) {
	for _, seed := range []chance{88172645463325252, 2463534242} {
		c := seed
		done := map[string]int{}
		for range 400 {
			s := &slow{pipes: 1 + c.below(mostPipes), room: one(&c, 1, 1, 2, 3, 4, 1+c.below(mostRoom))}
			p := made(t, s.pipes, s.room)
			for i := range 120 {
				if c.below(20) == 0 {
					if got, must := lean(&c, p, s, 1000*i); got != must {
						t.Fatalf("%d pipes of room %d: %s, want %s", s.pipes, s.room, got, must)
					}
				}
				what, got, must := act(&c, p, s, i)
				done[what]++
				if got != must {
					t.Fatalf("%d pipes of room %d: %s: %s, want %s", s.pipes, s.room, what, got, must)
				}
				wantCounts(t, what, p, s.counts()...)
			}
		}
		for _, what := range []string{"Put 0", "Put 1", "Put 6", "Take 0", "Take 1", "Take 5", "Next 0", "Next 5", "Spread 0", "Spread 6"} {
			if done[what] < 100 {
				t.Errorf("%s: %d times: too few to tell", what, done[what])
			}
		}
	}
}
