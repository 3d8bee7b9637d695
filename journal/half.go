package journal

import (
	"slices"

	"windrose/api"
	"windrose/drum"
	"windrose/frame"
)

// headMark is the first number of each head.
const headMark = 7

// headAt is the sector of a half's head.
func headAt(d *drum.Drum, second bool) int {
	if second {
		return d.Sectors() / 2
	}
	return 0
}

// rowBytes is how many bytes the sectors of a half have, but its head.
func rowBytes(d *drum.Drum) int { return (d.Sectors()/2 - 1) * sectorBytes }

// found is the journal that stands on a drum. An age is above 0: so the second half of age 0 gives way to each head.
func found(d *drum.Drum) *Journal {
	j := &Journal{drum: d, second: true}
	end := 0
	for _, second := range []bool{false, true} {
		age, e, ok := readHead(d, second)
		if ok && age > j.age {
			j.second, j.age, end = second, age, e
		}
	}
	row, _ := d.Read(j.headAt()+1, d.Sectors()/2-1)
	_, n := unframed(row[:end], j.age)
	j.frames = row[:n]
	return j
}

// readHead is the age that a half's head tells, and how many bytes its frames have; false: it is no head.
func readHead(d *drum.Drum, second bool) (int, int, bool) {
	b, _ := d.Read(headAt(d, second), 1)
	x, n, e := frame.First(b)
	if e != api.OK || !noughts(b[n:]) {
		return 0, 0, false
	}
	if len(x.Texts) != 0 || len(x.Nums) != 3 || x.Nums[0] != headMark {
		return 0, 0, false
	}
	age, end := x.Nums[1], x.Nums[2]
	if age < 1 || age > api.MaxCount || end < 0 || end > rowBytes(d) {
		return 0, 0, false
	}
	return age, end, true
}

// headOf is a head's sector.
func headOf(age, end int) []byte {
	// Three numbers are always data.
	f, _ := frame.Frame(api.Data{Nums: []int{headMark, age, end}})
	return filled(f)
}

// filled is bytes with noughts behind them, to the end of a sector.
func filled(b []byte) []byte {
	sectors := (len(b) + sectorBytes - 1) / sectorBytes
	l := make([]byte, sectors*sectorBytes)
	copy(l, b)
	return l
}

func noughts(b []byte) bool {
	return !slices.ContainsFunc(b, func(c byte) bool { return c != 0 })
}

// framed is the frames of data, with an age: ErrLong, also where there are too many ahead of the one that may not be.
func framed(l []api.Data, age, most int) ([]byte, api.Errno) {
	var b []byte
	full := false
	for _, x := range l {
		f, e := frame.Frame(withAge(x, age))
		if e != api.OK {
			return nil, e
		}
		full = full || len(f) > most-len(b)
		if !full {
			b = append(b, f...)
		}
	}
	if full {
		return nil, api.ErrFull
	}
	return b, api.OK
}

// unframed is the data of the frames of an age that bytes begin with, without the age, and how many bytes these have.
func unframed(b []byte, age int) ([]api.Data, int) {
	var l []api.Data
	at := 0
	for {
		x, n, e := frame.First(b[at:])
		if e != api.OK || len(x.Texts) == 0 || x.Texts[0] != ageText(age) {
			return l, at
		}
		x.Texts = x.Texts[1:]
		l = append(l, x)
		at += n
	}
}

// withAge is data with the age ahead of their texts.
func withAge(x api.Data, age int) api.Data {
	return api.Data{Nums: x.Nums, Texts: slices.Concat([]string{ageText(age)}, x.Texts)}
}

// ageText is an age in four bytes, the highest first.
func ageText(age int) string {
	return string([]byte{byte(age >> 24), byte(age >> 16), byte(age >> 8), byte(age)})
}
