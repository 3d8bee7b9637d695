package gorilla_test

import (
	"slices"
	"testing"

	"windrose/api"
	"windrose/gorilla"
)

// TestSamplesOfBuild are the samples.
func TestSamplesOfBuild(t *testing.T) {
	for _, l := range lists() {
		c := built(t, l)
		got, e := gorilla.Samples(c)
		wantSamples(t, "Samples of Build", got, e, l, api.OK)
		if again := built(t, got); !gorilla.Same(c, again) {
			t.Errorf("Build of Samples of %s: %s", short(whole(c)), short(whole(again)))
		}
	}
}

// TestBuiltAlike: in one go, and by Append from the first sample on; all that stand between are built alike, too.
func TestBuiltAlike(t *testing.T) {
	for i, l := range lists() {
		if i%3 != 0 && len(l) > 20 {
			continue
		}
		c := built(t, l[:1])
		for n := 2; n <= len(l); n++ {
			y, e := gorilla.Append(c, l[n-1])
			if e != api.OK || !gorilla.Same(y, built(t, l[:n])) {
				t.Fatalf("%s, %d of them: error %d, %s", short(l), n, e, short(whole(y)))
			}
			c = y
		}
	}
}

// TestNoTwoChunksOfTheSameSamples: what Samples takes, Build makes again: bits of few signs that are drawn.
func TestNoTwoChunksOfTheSameSamples(t *testing.T) {
	c := chance(2463534242)
	pieces := []string{"0", "00", "10 0000010", "10 0000001", "00 0000", "00 0001", "00 1111", "110 000010000000", "10 0000000", "1"}
	right := 0
	for range 30000 {
		s := "0 0 10 0000010 0"
		for range c.below(6) {
			s += one(&c, pieces...)
		}
		bits := of(s)
		for n := 2; n < 40; n++ {
			l, ok := slowHear(text(bits), n)
			if !ok {
				break
			}
			y := api.Chunk{N: n, First: l[0].T, Last: l[n-1].T, Bits: bits}
			if got, e := gorilla.Samples(y); e == api.OK {
				right++
				if !slices.Equal(got, l) || whole(built(t, got)) != whole(y) {
					t.Fatalf("%s: %s, and %s", short(whole(y)), short(got), short(whole(built(t, got))))
				}
			}
		}
	}
	if right < 1000 {
		t.Errorf("%d: too few to tell", right)
	}
}

// TestAllAgree: Slice of all, a cursor, and Samples tell the same.
func TestAllAgree(t *testing.T) {
	for _, l := range lists() {
		c := built(t, l)
		got, e := gorilla.Slice(c, c.First, c.Last+1)
		wantSamples(t, "Slice", got, e, l, api.OK)
		var passed []api.Sample
		x := gorilla.Open(c)
		for s, ok := x.Next(); ok; s, ok = x.Next() {
			passed = append(passed, s)
		}
		wantSamples(t, "a cursor", passed, api.OK, l, api.OK)
	}
}
