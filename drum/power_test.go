package drum_test

import (
	"fmt"
	"math"
	"testing"

	"windrose/drum"
)

// Three writes, of which the first two are of one Write, by how many of them count.
func TestArm(t *testing.T) {
	for _, r := range []struct {
		n       int
		pending int
		gone    bool
		left    []int // behind a crash that keeps all
	}{
		{0, 0, true, nil}, {1, 1, true, []int{1}}, {2, 2, true, []int{1, 2}}, {3, 3, false, []int{1, 2, 3}}, {4, 3, false, []int{1, 2, 3}},
		{math.MaxInt, 3, false, []int{1, 2, 3}}, {-1, 3, false, []int{1, 2, 3}}, {-2, 3, false, []int{1, 2, 3}}, {math.MinInt, 3, false, []int{1, 2, 3}},
	} {
		d := made(t, 8)
		d.Arm(r.n)
		want(t, d, fmt.Sprint("Arm ", r.n), 0, false)
		write(t, d, 0, 1, 2)
		write(t, d, 2, 3)
		want(t, d, fmt.Sprint("Arm ", r.n, ", three writes"), r.pending, r.gone, 1, 2, 3)
		d.Crash(pattern("y"))
		want(t, d, fmt.Sprint("Arm ", r.n, ", three writes, and a crash"), 0, false, r.left...)
	}
}

// The power is gone at the write behind those that count, not earlier: not where as many as count were written, nor at reads, syncs, refused writes, and writes of no bytes.
func TestPowerGoesAtTheWriteBehind(t *testing.T) {
	for n := range 6 {
		d := made(t, 8)
		d.Arm(n)
		for i := range n {
			write(t, d, i%8, i+1)
			if d.Gone() {
				t.Fatalf("armed with %d: gone at write %d", n, i+1)
			}
			d.Sync()
			d.Write(8, page(9))
			d.Write(0, page(9)[:63])
			d.Write(0, nil)
			d.Read(0, 8)
		}
		if d.Gone() || d.Pending() != 0 {
			t.Fatalf("armed with %d: gone ahead of the write at which it shall be", n)
		}
		write(t, d, 7, 99)
		if !d.Gone() {
			t.Fatalf("armed with %d: not gone behind %d writes", n, n+1)
		}
	}
}

func TestArmAgain(t *testing.T) {
	d := made(t, 8)
	d.Arm(1)
	write(t, d, 0, 1)
	d.Arm(2)
	write(t, d, 1, 2, 3)
	want(t, d, "armed with 1, and, behind one write, with 2", 3, false, 1, 2, 3)
	write(t, d, 3, 4)
	want(t, d, "and the third write", 3, true, 1, 2, 3, 4)

	d = made(t, 8)
	d.Arm(5)
	d.Arm(0)
	write(t, d, 0, 1)
	want(t, d, "armed with less", 0, true, 1)

	for _, n := range []int{-1, -5, math.MinInt} {
		d = made(t, 8)
		d.Arm(0)
		d.Arm(n)
		write(t, d, 0, 1, 2, 3)
		want(t, d, fmt.Sprint("armed with 0, and with ", n), 3, false, 1, 2, 3)
	}
}

func TestArmOncePowerIsGone(t *testing.T) {
	for _, n := range []int{0, 1, 5, math.MaxInt, -1, math.MinInt} {
		d := made(t, 8)
		d.Arm(1)
		write(t, d, 0, 1, 2)
		want(t, d, "gone", 1, true, 1, 2)
		d.Arm(n)
		want(t, d, fmt.Sprint("gone, and Arm ", n), 1, true, 1, 2)
		write(t, d, 2, 3)
		want(t, d, fmt.Sprint("gone, Arm ", n, ", and a write"), 1, true, 1, 2, 3)
		d.Crash(pattern("y"))
		want(t, d, "and a crash", 0, false, 1)
		write(t, d, 1, 4, 5, 6)
		want(t, d, "behind it the drum is not armed", 3, false, 1, 4, 5, 6)
	}
}

func TestPowerGoesInTheMidst(t *testing.T) {
	for n := range 8 {
		d := made(t, 8)
		write(t, d, 0, 91, 92, 93, 94, 95, 96, 97, 98)
		d.Sync()
		write(t, d, 7, 50)
		d.Arm(n)
		write(t, d, 0, 1, 2, 3, 4, 5, 6, 7, 8)
		want(t, d, fmt.Sprint("gone behind ", n), n+1, true, 1, 2, 3, 4, 5, 6, 7, 8)
		d.Crash(pattern("y"))
		must := []int{91, 92, 93, 94, 95, 96, 97, 50}
		for i := range n {
			must[i] = i + 1
		}
		want(t, d, fmt.Sprint("gone behind ", n, ", crash y"), 0, false, must...)
	}
}

// Once the power is gone, writes and syncs are seen, and of no account.
func TestOncePowerIsGone(t *testing.T) {
	for _, r := range []struct {
		pattern string
		left    []int
	}{
		{"", []int{91, 92, 93}}, {"n", []int{91, 92, 93}}, {"y", []int{91, 2, 3}}, {"yn", []int{91, 2, 93}}, {"ny", []int{91, 92, 3}}, {"nny", []int{91, 92, 93}},
		{"nnyyyyyyyy", []int{91, 92, 93}}, {"yyn", []int{91, 2, 3}},
	} {
		d := made(t, 8)
		write(t, d, 0, 91, 92, 93)
		d.Sync()
		d.Arm(2)
		write(t, d, 1, 2, 3)
		want(t, d, "ahead", 2, false, 91, 2, 3)
		write(t, d, 0, 1)
		want(t, d, "at it", 2, true, 1, 2, 3)
		d.Sync()
		want(t, d, "a sync", 2, true, 1, 2, 3)
		write(t, d, 1, 4, 5, 6)
		want(t, d, "writes", 2, true, 1, 4, 5, 6)
		d.Sync()
		write(t, d, 7, 7)
		d.Sync()
		want(t, d, "and a sync behind", 2, true, 1, 4, 5, 6, 0, 0, 0, 7)
		if d.Write(8, page(1)) == 0 || d.Write(0, page(1)[:63]) == 0 {
			t.Error("a write that is refused is so once the power is gone, too")
		}
		d.Crash(pattern(r.pattern))
		want(t, d, fmt.Sprintf("crash %q", r.pattern), 0, false, r.left...)
		write(t, d, 4, 8)
		want(t, d, "from then on writes count", 1, false, append(r.left, 0, 8)...)
		d.Sync()
		d.Crash(nil)
		want(t, d, "and syncs", 0, false, append(r.left, 0, 8)...)
	}
}

// What was synced ahead of the write at which the power goes is kept; the count of writes goes on over a sync.
func TestSyncWhileArmed(t *testing.T) {
	d := made(t, 8)
	d.Arm(3)
	write(t, d, 0, 1, 2)
	d.Sync()
	want(t, d, "synced", 0, false, 1, 2)
	write(t, d, 0, 3, 4)
	want(t, d, "gone", 1, true, 3, 4)
	d.Crash(nil)
	want(t, d, "a crash", 0, false, 1, 2)
}

// A crash ahead of the write at which the power shall go does not change which one that is: the words say so of a wipe alone.
func TestCrashWhileArmed(t *testing.T) {
	for _, p := range []string{"", "y", "n"} {
		d := made(t, 8)
		d.Arm(2)
		write(t, d, 0, 1)
		d.Crash(pattern(p))
		ahead := numbers(t, d)
		write(t, d, 1, 2)
		want(t, d, "the second write", 1, false, ahead[0], 2)
		write(t, d, 2, 3)
		want(t, d, "the third write", 1, true, ahead[0], 2, 3)
	}
}

// Gone tells so from the write at which the power goes to the next crash, or wipe, whatever is called between.
func TestGone(t *testing.T) {
	for name, call := range map[string]func(*drum.Drum){
		"Crash": func(d *drum.Drum) { d.Crash(nil) },
		"Wipe":  func(d *drum.Drum) { d.Wipe() },
	} {
		d := made(t, 8)
		for round := range 3 {
			if d.Gone() {
				t.Fatalf("%s, round %d: gone at first", name, round)
			}
			d.Arm(1)
			write(t, d, 0, 1)
			if d.Gone() {
				t.Fatalf("%s, round %d: gone ahead", name, round)
			}
			write(t, d, 0, 2)
			for i := range 4 {
				if !d.Gone() {
					t.Fatalf("%s, round %d: not gone, %d", name, round, i)
				}
				write(t, d, i, 3)
				d.Sync()
				d.Arm(-1)
				d.Read(0, 8)
				d.Pending()
			}
			call(d)
		}
	}
}

func TestWipe(t *testing.T) {
	for name, ahead := range map[string]func(d *drum.Drum){
		"as New gave it": func(d *drum.Drum) {},
		"synced":         func(d *drum.Drum) { write(t, d, 0, 1, 2); d.Sync() },
		"pending":        func(d *drum.Drum) { write(t, d, 0, 1, 2); d.Sync(); write(t, d, 1, 3, 4) },
		"armed with 0":   func(d *drum.Drum) { write(t, d, 0, 1, 2); d.Arm(0) },
		"armed with 2":   func(d *drum.Drum) { d.Arm(2); write(t, d, 0, 1) },
		"gone":           func(d *drum.Drum) { write(t, d, 0, 1); d.Sync(); d.Arm(1); write(t, d, 1, 2, 3); d.Sync() },
		"crashed":        func(d *drum.Drum) { write(t, d, 0, 1, 2); d.Crash(pattern("yn")) },
	} {
		d := made(t, 10)
		ahead(d)
		d.Wipe()
		want(t, d, name+", wiped", 0, false)
		if d.Sectors() != 10 {
			t.Errorf("%s, wiped: Sectors %d", name, d.Sectors())
		}
		d.Crash(pattern("y"))
		want(t, d, name+", wiped, and a crash", 0, false)
		write(t, d, 3, 5, 6, 7, 8)
		want(t, d, name+", wiped: it is not armed", 4, false, 0, 0, 0, 5, 6, 7, 8)
		d.Crash(pattern("ny"))
		want(t, d, name+", wiped: what was synced is noughts", 0, false, 0, 0, 0, 0, 6, 0, 8)
	}
}
