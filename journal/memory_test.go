package journal_test

import (
	"fmt"
	"slices"
	"testing"

	"windrose/api"
)

// roomy is data with known room behind their lists.
func roomy(n int) api.Data {
	nums := []int{n, n + 1, 901, 902, 903}
	texts := []string{fmt.Sprint("t", n), "u", "room1", "room2", "room3"}
	return api.Data{Nums: nums[:2], Texts: texts[:2]}
}

// plain is what roomy is, without the room.
func plain(n int) api.Data {
	return api.Data{Nums: []int{n, n + 1}, Texts: []string{fmt.Sprint("t", n), "u"}}
}

// overwrite writes over data's lists and the room behind them.
func overwrite(l ...api.Data) {
	for _, x := range l {
		nums, texts := x.Nums[:cap(x.Nums)], x.Texts[:cap(x.Texts)]
		for i := range nums {
			nums[i] = -77
		}
		for i := range texts {
			texts[i] = "overwritten"
		}
	}
}

// whole is data with the room behind their lists, as a text.
func whole(l ...api.Data) string {
	s := ""
	for _, x := range l[:cap(l)] {
		s += fmt.Sprint(x.Nums[:cap(x.Nums)], x.Texts[:cap(x.Texts)], len(x.Nums), len(x.Texts), ";")
	}
	return s
}

// What is handed in is not changed, nor the room behind it, also where it is refused.
func TestHandedInStays(t *testing.T) {
	d := made(t, 8)
	j := opened(t, d)
	x := roomy(1)
	was := whole(x)
	add(t, j, x, x)
	list := []api.Data{roomy(2), roomy(3), roomy(4), roomy(5)}
	l := list[:2]
	allWas := whole(l...)
	anew(t, j, l...)
	for range 20 {
		j.Append(x)
		j.Sync()
	}
	big := append(slices.Clone(list), long(180))
	bigWas := whole(big...)
	wantError(t, "Anew of too much", j.Anew(big), api.ErrFull)
	if whole(x) != was || whole(l...) != allWas || whole(big...) != bigWas {
		t.Error("what was handed in has changed")
	}
}

// What was handed in may be written over: the journal has its own.
func TestHandedInIsNotKept(t *testing.T) {
	d := made(t, 16)
	j := opened(t, d)
	x := roomy(1)
	add(t, j, x)
	overwrite(x)
	want(t, j, "appended", rowOf(16)-len(framed(1, plain(1))), plain(1))
	l := []api.Data{roomy(2), roomy(3)}
	anew(t, j, l...)
	overwrite(l...)
	l[0], l[1] = num(8), num(9)
	must := []api.Data{plain(2), plain(3)}
	want(t, j, "begun anew", rowOf(16)-len(framed(1, must...)), must...)
	add(t, j, roomy(4))
	must = append(must, plain(4))
	want(t, j, "appended", rowOf(16)-len(framed(1, must...)), must...)
	j.Sync()
	want(t, opened(t, d), "opened anew", rowOf(16)-len(framed(1, must...)), must...)
}

// What Records tells may be written over, and shares no memory with another answer, nor one record with another.
func TestRecordsAreNew(t *testing.T) {
	d := made(t, 16)
	j := opened(t, d)
	must := []api.Data{plain(1), plain(2), plain(3)}
	add(t, j, must[:2]...)
	j.Sync()
	j = opened(t, d)
	add(t, j, must[2])
	for i := range 3 {
		got, other := j.Records(), j.Records()
		overwrite(got[i])
		for k := range got {
			if k != i && !same(got[k:k+1], must[k:k+1]) {
				t.Errorf("records %d and %d of one answer share memory", i, k)
			}
		}
		overwrite(got...)
		for k := range got[:cap(got)] {
			got[:cap(got)][k] = num(5)
		}
		if !same(other, must) || !same(j.Records(), must) {
			t.Errorf("Records share memory: %s, %s", short(other), short(j.Records()))
		}
	}
	j.Sync()
	want(t, opened(t, d), "opened anew", rowOf(16)-len(framed(1, must...)), must...)
	// Its own answer may be handed in again, and be written over then.
	l := j.Records()
	anew(t, j, l[1:]...)
	overwrite(l...)
	want(t, j, "begun anew with what it told", rowOf(16)-len(framed(1, must[1:]...)), must[1:]...)
}

// An answer told ahead stays as it was, whatever is done behind.
func TestRecordsStay(t *testing.T) {
	d := made(t, 8)
	j := opened(t, d)
	add(t, j, num(1), num(2))
	got := j.Records()
	add(t, j, num(3))
	anew(t, j, num(4))
	add(t, j, num(5))
	d.Wipe()
	if !same(got, []api.Data{num(1), num(2)}) {
		t.Errorf("Records told ahead: %s", short(got))
	}
	want(t, j, "Records hang on the journal's calls alone", 192-26, num(4), num(5))
}

// nil and the empty list are the same.
func TestNilAndEmpty(t *testing.T) {
	d1, d2 := made(t, 8), made(t, 8)
	a, b := opened(t, d1), opened(t, d2)
	add(t, a, api.Data{}, api.Data{Nums: []int{1}})
	add(t, b, api.Data{Nums: []int{}, Texts: []string{}}, api.Data{Nums: []int{1}, Texts: []string{}})
	wantImage(t, d1, "appended", image(t, d2))
	wantError(t, "Anew of nil", a.Anew(nil), api.OK)
	wantError(t, "Anew of the empty list", b.Anew([]api.Data{}), api.OK)
	wantImage(t, d1, "begun anew", image(t, d2))
}
