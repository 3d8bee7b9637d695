package shelf_test

import (
	"fmt"
	"slices"
	"testing"

	"windrose/api"
	"windrose/shelf"
)

// all is a list with the room behind its end.
func all[T any](l []T) []T { return l[:cap(l)] }

// roomy is a list with room behind its end, in which something stands.
func roomy[T any](l []T, behind ...T) []T {
	return append(append(make([]T, 0, len(l)+len(behind)), l...), behind...)[:len(l)]
}

// deep is a copy of a shelf of which each list has room behind its end, in which something stands.
func deep(s api.Shelf) api.Shelf {
	s.Lines = roomy(s.Lines, line("behind", 901, 902), line("", -1, 5), api.Line{})
	for i := range s.Lines {
		s.Lines[i].Samples = roomy(s.Lines[i].Samples, row(901, 902, 903, 904, 905, 906)...)
	}
	s.Dones = roomy(s.Dones, told(901, 902, has(903)), told(904, 905, has(906)))
	return s
}

// whole is a shelf as a text, with what stands behind the end of each list, and how much room that is.
func whole(s api.Shelf) string {
	text := fmt.Sprintln(s.Floor, len(s.Lines), len(s.Dones), all(s.Dones))
	for _, l := range all(s.Lines) {
		text += fmt.Sprintln(l.Series, len(l.Samples), all(l.Samples))
	}
	return text
}

// spots are the places in memory where lists of answers, or of arguments, lie, with the room behind their ends.
type spots map[any]int

func addresses[T any](s spots, l []T) {
	for i := range all(l) {
		s[&all(l)[i]]++
	}
}

func (s spots) add(x api.Shelf) {
	addresses(s, x.Lines)
	for _, l := range all(x.Lines) {
		addresses(s, l.Samples)
	}
	addresses(s, x.Dones)
}

// shared tells whether one place is of two lists.
func (s spots) shared() bool {
	for _, n := range s {
		if n > 1 {
			return true
		}
	}
	return false
}

// spoil turns all of a shelf's lists, and the room behind their ends.
func spoil(s api.Shelf) {
	for i := range all(s.Lines) {
		l := &all(s.Lines)[i]
		for j := range all(l.Samples) {
			all(l.Samples)[j] = api.Sample{T: 77777, V: -77777}
		}
		l.Series = "spoilt"
	}
	for i := range all(s.Dones) {
		all(s.Dones)[i] = told(77777, 77777, has(-77777))
	}
}

// handed are shelves that are handed in: of nothing, of something, of as much as may be, and such as may not be.
func handed() []api.Shelf {
	c := chance(7)
	l := append(alikes(), crowd(), api.Shelf{Lines: many(maxLines)}, api.Shelf{Lines: many(maxLines + 1)}, api.Shelf{Dones: clients(maxDones + 1)}, api.Shelf{Floor: top})
	var s api.Shelf
	for i := range 200 {
		s, _, _ = shelf.Do(s, entry(1+c.below(9), 1+i, c.op(s.Floor)))
		if i%20 == 0 {
			l = append(l, s)
		}
	}
	return l
}

// entries are such as are done on these shelves, and such as are not.
func entries() []api.Entry {
	var l []api.Entry
	for _, o := range []api.Op{
		write("cpu", 100, 10), write("cpu", 100, 11), write("cpu", 115, 1), write("aaa", 200, 1), write("zzz", 200, 1), write(`row{at="00"}`, 50, 3), write(`row{at="00"}`, 51, 3), write(`row{at="03"}`, 60, 3),
		trim(50), trim(51), trim(100), trim(106), trim(111), trim(top), sum(api.TotalSum, "cpu", 0, top), sum(api.TotalRate, `row{at="00"}`, 60, 90), get("cpu", 110), get(`row{at="04"}`, 50), {},
	} {
		for _, client := range []int{0, 1, 2, 10, 40, 85, 99} {
			l = append(l, entry(client, 5, o), entry(client, 1000, o))
		}
	}
	return append(l, entry(-1, 1, trim(5)), entry(1, 0, trim(5)))
}

// No call changes what it is handed, nor the room behind it.
func TestHandedInStays(t *testing.T) {
	for _, s := range handed() {
		s = deep(s)
		ahead := whole(s)
		for _, e := range entries() {
			shelf.Do(s, e)
			shelf.Look(s, e.Op)
			if whole(s) != ahead {
				t.Fatalf("by %+v\n%s is\n%s", e, ahead, whole(s))
			}
		}
		shelf.Check(s)
		shelf.Same(s, s)
		shelf.Same(s, house())
		shelf.Same(house(), s)
		if whole(s) != ahead {
			t.Fatalf("%s is\n%s", ahead, whole(s))
		}
	}
	l := roomy(entries(), entries()...)
	ahead := slices.Clone(all(l))
	shelf.Fold(l)
	if !slices.Equal(all(l), ahead) {
		t.Error("Fold changes what it is handed")
	}
}

// No list of a shelf that is told is shared with what was handed in, or with another one of it; spare room counts.
func TestAnswersAreNewMemory(t *testing.T) {
	seen := 0
	for _, s := range handed() {
		s = deep(s)
		for _, e := range entries() {
			l := spots{}
			l.add(s)
			ahead := len(l)
			first, _, _ := shelf.Do(s, e)
			second, _, _ := shelf.Do(s, e)
			l.add(first)
			l.add(second)
			if l.shared() {
				t.Fatalf("behind %s, %+v: memory is shared", short(s), e)
			}
			seen += len(l) - ahead
		}
	}
	l := spots{}
	for range 3 {
		l.add(shelf.Fold(entries()))
		l.add(shelf.Fold(entries()[:20]))
		l.add(shelf.Fold(nil))
	}
	if l.shared() || len(l) < 20 || seen < 100000 {
		t.Errorf("Fold shares memory, or %d, %d are too few to tell", len(l), seen)
	}
}

// What was told stays as it was, whatever is done with what was handed in; and the other way round.
func TestToldHangsOnNothing(t *testing.T) {
	for _, s := range handed() {
		for _, e := range entries() {
			own := deep(s)
			ahead := whole(own)
			got, a, f := shelf.Do(own, e)
			must := whole(got)
			other, _, _ := shelf.Do(own, e)
			spoil(other)
			if whole(own) != ahead || whole(got) != must {
				t.Fatalf("what is told of %s, %+v is shared", short(s), e)
			}
			spoil(own)
			if whole(got) != must {
				t.Fatalf("what is told hangs on what was handed in: %s, %+v", short(s), e)
			}
			if again, b, g := shelf.Do(s, e); text(again) != text(got) || b != a || g != f {
				t.Fatalf("twice: %s, %+v", short(s), e)
			}
		}
	}
}

// A shelf grows entry by entry: those told ahead stay as they were.
func TestToldAheadStays(t *testing.T) {
	c := chance(99)
	var s api.Shelf
	var shelves []api.Shelf
	var texts []string
	for range 600 {
		if next, _, e := shelf.Do(s, c.entry(s)); e == api.OK {
			s = next
			shelves, texts = append(shelves, s), append(texts, whole(s))
		}
	}
	for i, s := range shelves {
		if whole(s) != texts[i] {
			t.Fatalf("what was told at %d has changed", i)
		}
	}
}
