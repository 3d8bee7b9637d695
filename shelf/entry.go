package shelf

import (
	"cmp"
	"slices"

	"windrose/api"
)

// doEntry turns a shelf that may be by an entry that may be done.
func doEntry(s *api.Shelf, e api.Entry) api.Answer {
	if e.Client == 0 {
		return doOp(s, e.Op)
	}
	if at, ok := done(s, e.Client); ok && s.Dones[at].Id >= e.Id {
		return toldAgain(s.Dones[at], e.Id)
	}
	a := doOp(s, e.Op)
	remember(s, api.Done{Client: e.Client, Id: e.Id, Answer: a})
	return a
}

// toldAgain is what a client is told of an op that was done. Of those ahead of its last one nobody knows any more what was told.
func toldAgain(last api.Done, id int) api.Answer {
	if last.Id == id {
		return last.Answer
	}
	return api.Answer{Code: api.ErrOld}
}

// remember keeps what a client was told last; where there is no room, another client is forgotten.
func remember(s *api.Shelf, d api.Done) {
	at, ok := done(s, d.Client)
	if ok {
		s.Dones[at] = d
		return
	}
	if len(s.Dones) >= api.MaxClients {
		forget(s)
		at, _ = done(s, d.Client)
	}
	s.Dones = slices.Insert(s.Dones, at, d)
}

// forget takes away the first of those with the least Id.
func forget(s *api.Shelf) {
	least := slices.MinFunc(s.Dones, func(a, b api.Done) int { return cmp.Compare(a.Id, b.Id) })
	at, _ := done(s, least.Client)
	s.Dones = slices.Delete(s.Dones, at, at+1)
}

// done is where a client's Done is, or would be, and whether it has one.
func done(s *api.Shelf, client int) (int, bool) {
	return slices.BinarySearchFunc(s.Dones, client, func(d api.Done, c int) int { return cmp.Compare(d.Client, c) })
}
