package postings

import "slices"

// Walker goes over a list.
type Walker struct {
	left []int // from where it stands on
}

// Walk is a walker at the first one.
func Walk(l []int) *Walker { return &Walker{left: slices.Clone(sound(l))} }

// At is where it stands.
func (w *Walker) At() (int, bool) {
	if w.Left() == 0 {
		return 0, false
	}
	return w.left[0], true
}

// Next goes to the next one.
func (w *Walker) Next() (int, bool) { return w.pass(1) }

// Seek goes to the first one from a number on.
func (w *Walker) Seek(n int) (int, bool) {
	if w == nil {
		return 0, false
	}
	below, _ := slices.BinarySearch(w.left, n)
	return w.pass(below)
}

// Left is how many there are still.
func (w *Walker) Left() int {
	if w == nil {
		return 0
	}
	return len(w.left)
}

// pass goes on by so many, which are no more than there are, unless there are none.
func (w *Walker) pass(n int) (int, bool) {
	if w.Left() == 0 {
		return 0, false
	}
	w.left = w.left[n:]
	return w.At()
}
