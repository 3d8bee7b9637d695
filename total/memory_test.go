package total_test

import (
	"slices"
	"testing"

	"windrose/api"
	"windrose/total"
)

// roomy is samples with known room behind their end, of times that go on, and of values that all would turn.
func roomy(l []api.Sample) []api.Sample {
	all := slices.Concat(l, row(top-2, -top, top-1, top, top, 12345))
	return all[:len(l)]
}

// handed is what is handed in: no samples, some, as many as may be, and such as may not be.
func handed() [][]api.Sample {
	return append([][]api.Sample{
		nil, {}, row(0, 0), row(5, 5), row(5, 6, 9, -2), row(10, 3, 20, 2, 30, 1), row(10, 1, 20, 3, 30, 2), row(0, 10, 30, 25, 60, 5),
		even(most-1, 0, 1, 3), even(most, 0, 1, 3), slope(most, 0, 1, 90, -1), turns(most, top, -top),
	}, wrong()...)
}

// No call changes the list that it is handed, nor the room behind it, also where it is refused.
func TestHandedInStays(t *testing.T) {
	for _, l := range handed() {
		for _, kind := range append(kinds(), noKinds()...) {
			given := roomy(l)
			total.Of(kind, given)
			if !slices.Equal(given, l) || !slices.Equal(given[len(l):cap(given)], roomy(l)[len(l):cap(given)]) {
				t.Fatalf("Of(%d, %s) has changed what it was handed", kind, short(l))
			}
		}
	}
}

// What lies behind a list's end does not count.
func TestBehindTheEnd(t *testing.T) {
	for _, l := range handed() {
		holdOf(t, "with room", roomy(l))
		holdOf(t, "without room", slices.Clip(slices.Clone(l)))
	}
}

// What is told hangs on no call ahead.
func TestNothingIsKept(t *testing.T) {
	for _, ahead := range handed() {
		for _, kind := range append(kinds(), 0, api.TotalKinds) {
			total.Of(kind, ahead)
			total.Fold(kind, 77, far+1)
			total.Fold(kind, -77, 77)
		}
		holdOf(t, "behind others", row(0, 10, 30, 25, 60, 5))
		holdOf(t, "behind others", nil)
		wantFold(t, "behind others", api.TotalSum, 3, 5, 8)
		wantFold(t, "behind others", api.TotalRate, 3, 5, none)
	}
}
