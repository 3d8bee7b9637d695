package acceptor_test

import (
	"slices"

	"windrose/api"
)

// slowTold tells whether a delta may be told, by the chapter's words.
func slowTold(d api.Delta) bool {
	if d.Kind < 1 || d.Kind > 10 {
		return false
	}
	for _, f := range fields() {
		n := *f.at(&d)
		if n != 0 && !slices.Contains(asks(d.Kind), f.name) || n < 0 || n > top {
			return false
		}
	}
	if len(d.Nodes) > 0 && d.Kind != api.DeltaTemp || len(d.Nodes) > 3 {
		return false
	}
	return !slices.ContainsFunc(d.Nodes, func(n int) bool { return n < 0 || n > top })
}

// slowMay tells whether an acceptor may be, by the chapter's words.
func slowMay(a api.Acceptor) bool {
	if a.Promised < 0 || a.Promised > top || len(a.Slots) > mostSlots {
		return false
	}
	for i, x := range a.Slots {
		idle := text(x) == text(api.Accepted{})
		taken := x.Ballot >= 1 && x.Ballot <= a.Promised && slowTold(x.Delta)
		if !idle && !taken || idle && i == len(a.Slots)-1 {
			return false
		}
	}
	return true
}

// slowPrepare is Prepare, by the chapter's words.
func slowPrepare(a api.Acceptor, ballot, from int) (api.Acceptor, []api.Accepted, api.Errno) {
	switch {
	case !slowMay(a):
		return api.Acceptor{}, nil, api.ErrArg
	case ballot < 1 || ballot > top || from < 1 || from > 257:
		return a, nil, api.ErrArg
	case ballot < a.Promised:
		return a, nil, api.ErrOld
	}
	var told []api.Accepted
	for i, x := range a.Slots {
		if slot := i + 1; slot >= from {
			told = append(told, x)
		}
	}
	return api.Acceptor{Promised: ballot, Slots: a.Slots}, told, api.OK
}

// slowAccept is Accept, by the chapter's words.
func slowAccept(a api.Acceptor, ballot, slot int, d api.Delta) (api.Acceptor, api.Errno) {
	switch {
	case !slowMay(a):
		return api.Acceptor{}, api.ErrArg
	case ballot < 1 || ballot > top || !slowTold(d) || slot < 1 || slot > 256:
		return a, api.ErrArg
	case ballot < a.Promised:
		return a, api.ErrOld
	}
	l := make([]api.Accepted, max(slot, len(a.Slots)))
	for i := range l {
		if i+1 == slot {
			l[i] = api.Accepted{Ballot: ballot, Delta: d}
		} else if i < len(a.Slots) {
			l[i] = a.Slots[i]
		}
	}
	return api.Acceptor{Promised: ballot, Slots: l}, api.OK
}

// slowPick is Pick, by the chapter's words: place by place.
func slowPick(l [][]api.Accepted) []api.Accepted {
	longest := 0
	for _, told := range l {
		longest = max(longest, len(told))
	}
	var picked []api.Accepted
	for place := range longest {
		var there []api.Accepted
		for _, told := range l {
			if place < len(told) {
				there = append(there, told[place])
			}
		}
		best := slices.MaxFunc(there, func(a, b api.Accepted) int { // the first one of the greatest
			if a.Ballot < b.Ballot {
				return -1
			}
			if a.Ballot > b.Ballot {
				return 1
			}
			return 0
		})
		if best.Ballot == 0 {
			best = api.Accepted{}
		}
		picked = append(picked, best)
	}
	return picked
}
