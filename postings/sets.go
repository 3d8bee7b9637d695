package postings

import "slices"

// And is what is in all lists.
func And(l ...[]int) []int {
	if len(l) == 0 {
		return nil
	}
	all := slices.Clone(sound(l[0]))
	for _, x := range l[1:] {
		if len(all) == 0 {
			break
		}
		all = sift(all, sound(x), true)
	}
	return all
}

// Or is what is in one of the lists. Halves are put together, so that a number is looked at no more often than halves are halved.
func Or(l ...[]int) []int {
	switch len(l) {
	case 0:
		return nil
	case 1:
		return slices.Clone(sound(l[0]))
	}
	half := len(l) / 2
	return both(Or(l[:half]...), Or(l[half:]...))
}

// Without is what is in one, and not in the other one.
func Without(a, b []int) []int { return sift(sound(a), sound(b), false) }

// sift is what of one list is in another one, or is not.
func sift(a, b []int, in bool) []int {
	var l []int
	for _, n := range a {
		for len(b) > 0 && b[0] < n {
			b = b[1:]
		}
		if there := len(b) > 0 && b[0] == n; there == in {
			l = append(l, n)
		}
	}
	return l
}

// both is what is in one of two lists. Those that a list has no room for are the greatest, and no list that is put to them later makes them less.
func both(a, b []int) []int {
	var l []int
	for len(l) < most && len(a)+len(b) > 0 {
		n := least(a, b)
		l = append(l, n)
		a, b = behind(a, n), behind(b, n)
	}
	return l
}

// least is the first number of two lists of which one is not empty.
func least(a, b []int) int {
	switch {
	case len(a) == 0:
		return b[0]
	case len(b) == 0:
		return a[0]
	}
	return min(a[0], b[0])
}

// behind is a list without its first number, if it is this one.
func behind(l []int, n int) []int {
	if len(l) > 0 && l[0] == n {
		return l[1:]
	}
	return l
}
