package layout

import (
	"math"
	"testing"

	"solder/api"
)

// Numbers that are beyond all that a volume may have, and such as wrap round to a right one, if something is taken away, added, or multiplied.
var far = []int{
	-1, -2, -24, -200, -1 << 16, -1 << 32, math.MinInt, math.MinInt + 1, math.MinInt + 24,
	201, 255, 256, 257, 1000, 1 << 16, 1<<16 + 24, 1 << 32, 1<<32 + 1, 1<<32 + 24, 1<<62 + 1, 1<<62 + 24, 1<<63 - 24, math.MaxInt - 1, math.MaxInt,
}

// checkAt sees that a place is the one that is asked for, beside an error.
func checkAt(t *testing.T, what string, c api.Config, i, got int, e api.Errno, want int, wantErr api.Errno) {
	t.Helper()
	if got != want || e != wantErr {
		t.Errorf("%s(%v, %d): %d, error %d, want %d, %d", what, c, i, got, e, want, wantErr)
	}
}

// checkTable sees what Table answers.
func checkTable(t *testing.T, c api.Config, extent, want, wantWhich int, wantErr api.Errno) {
	t.Helper()
	if at, which, e := Table(c, extent); at != want || which != wantWhich || e != wantErr {
		t.Errorf("Table(%v, %d): %d, %d, error %d, want %d, %d, %d", c, extent, at, which, e, want, wantWhich, wantErr)
	}
}

// checkExtent sees what Extent answers.
func checkExtent(t *testing.T, c api.Config, extent, want int, wantErr api.Errno) {
	t.Helper()
	at, e := Extent(c, extent)
	checkAt(t, "Extent", c, extent, at, e, want, wantErr)
}

// checkSlot sees what Slot answers.
func checkSlot(t *testing.T, c api.Config, slot, want int, wantErr api.Errno) {
	t.Helper()
	at, e := Slot(c, slot)
	checkAt(t, "Slot", c, slot, at, e, want, wantErr)
}

// checkParts sees where the parts that are there once begin, and how many sectors all have.
func checkParts(t *testing.T, c api.Config, super, journal, log, sectors int) {
	t.Helper()
	if a, b, d, n := Super(c), Journal(c), Log(c), Sectors(c); a != super || b != journal || d != log || n != sectors {
		t.Errorf("%v: Super %d, Journal %d, Log %d, Sectors %d, want %d, %d, %d, %d", c, a, b, d, n, super, journal, log, sectors)
	}
}

// checkRefused sees that of a volume that may not be each call answers 0, and Check's error where it has one.
func checkRefused(t *testing.T, c api.Config, i int) {
	t.Helper()
	if e := Check(c); e != api.ErrRange {
		t.Errorf("Check(%v): error %d", c, e)
	}
	checkParts(t, c, 0, 0, 0, 0)
	checkTable(t, c, i, 0, 0, api.ErrRange)
	checkExtent(t, c, i, 0, api.ErrRange)
	checkSlot(t, c, i, 0, api.ErrRange)
}

// each goes through all volumes that may be.
func each(do func(c api.Config)) {
	for extents := 1; extents <= 24; extents++ {
		for slots := 1; slots <= 8; slots++ {
			for log := 24; log <= 200; log++ {
				do(api.Config{Extents: extents, Slots: slots, Log: log})
			}
		}
	}
}

// place is what a sector is for: a part's letter, and which one of the part it is.
type place struct {
	part  byte
	which int
}

// laid is all sectors of a volume in order, by the chapter's words: the parts, laid one behind the other.
func laid(c api.Config) []place {
	var l []place
	lay := func(part byte, which, many int) {
		for range many {
			l = append(l, place{part, which})
		}
	}
	lay('S', 0, 1)
	lay('J', 0, 1)
	for first := 0; first < c.Extents; first += 2 {
		lay('T', first, 1)
	}
	for extent := range c.Extents {
		lay('E', extent, 2)
	}
	for slot := range c.Slots {
		lay('Q', slot, 5)
	}
	lay('L', 0, c.Log)
	return l
}

// firsts is where each part, extent and slot begins.
func firsts(l []place) map[place]int {
	m := map[place]int{}
	for at, p := range l {
		if _, ok := m[p]; !ok {
			m[p] = at
		}
	}
	return m
}

// byWords sees that all calls of a volume that may be answer what its sectors say, one behind the other.
func byWords(t *testing.T, c api.Config) {
	t.Helper()
	l := laid(c)
	m := firsts(l)
	if e := Check(c); e != api.OK {
		t.Errorf("Check(%v): error %d", c, e)
	}
	checkParts(t, c, m[place{'S', 0}], m[place{'J', 0}], m[place{'L', 0}], len(l))
	for extent := range c.Extents {
		which := extent % 2
		checkTable(t, c, extent, m[place{'T', extent - which}], which, api.OK)
		checkExtent(t, c, extent, m[place{'E', extent}], api.OK)
	}
	for slot := range c.Slots {
		checkSlot(t, c, slot, m[place{'Q', slot}], api.OK)
	}
}

// 15.1: each number of extents, slots and of the log, up to the least and the greatest, and those beside them.
func TestCheck(t *testing.T) {
	for extents := -1; extents <= 26; extents++ {
		for slots := -1; slots <= 10; slots++ {
			for _, log := range []int{-24, -1, 0, 1, 22, 23, 24, 25, 100, 199, 200, 201, 202} {
				c := api.Config{Extents: extents, Slots: slots, Log: log}
				want := api.ErrRange
				if extents >= 1 && extents <= 24 && slots >= 1 && slots <= 8 && log >= 24 && log <= 200 {
					want = api.OK
				}
				if e := Check(c); e != want {
					t.Errorf("Check(%v): error %d, want %d", c, e, want)
				}
			}
		}
	}
	for log := -300; log <= 500; log++ {
		if e := Check(api.Config{Extents: 3, Slots: 1, Log: log}); (e == api.OK) != (log >= 24 && log <= 200) {
			t.Errorf("a log of %d: error %d", log, e)
		}
	}
	for slots := -50; slots <= 50; slots++ {
		if e := Check(api.Config{Extents: 24, Slots: slots, Log: 200}); (e == api.OK) != (slots >= 1 && slots <= 8) {
			t.Errorf("%d slots: error %d", slots, e)
		}
	}
	for extents := -50; extents <= 50; extents++ {
		if e := Check(api.Config{Extents: extents, Slots: 1, Log: 24}); (e == api.OK) != (extents >= 1 && extents <= 24) {
			t.Errorf("%d extents: error %d", extents, e)
		}
	}
}

// 15.1, 15.2: of a volume of which just one number may not be, all is 0, and Check's error, whatever is asked for.
func TestRefused(t *testing.T) {
	for _, i := range append([]int{0, 1, 7, 8, 23, 24}, far...) {
		for _, n := range append([]int{0, 25, 26, 48}, far...) {
			checkRefused(t, api.Config{Extents: n, Slots: 1, Log: 24}, i)
			checkRefused(t, api.Config{Extents: n, Slots: 8, Log: 200}, i)
		}
		for _, n := range append([]int{0, 9, 10, 24}, far...) {
			checkRefused(t, api.Config{Extents: 1, Slots: n, Log: 24}, i)
			checkRefused(t, api.Config{Extents: 24, Slots: n, Log: 200}, i)
		}
		for _, n := range append([]int{0, 1, 22, 23}, far...) {
			checkRefused(t, api.Config{Extents: 1, Slots: 1, Log: n}, i)
			checkRefused(t, api.Config{Extents: 24, Slots: 8, Log: n}, i)
		}
	}
}

// 15.1, 15.2: of a volume of which several numbers may not be, or none, likewise.
func TestRefusedAll(t *testing.T) {
	numbers := append([]int{0, 1, 8, 9, 23, 24, 25, 200}, far...)
	for _, extents := range numbers {
		for _, slots := range numbers {
			for _, log := range numbers {
				if extents >= 1 && extents <= 24 && slots >= 1 && slots <= 8 && log >= 24 && log <= 200 {
					continue
				}
				checkRefused(t, api.Config{Extents: extents, Slots: slots, Log: log}, 0)
			}
		}
	}
}

// 15.1, 15.2: the chapter's example, each place of it written out.
func TestExample(t *testing.T) {
	c := api.Config{Extents: 3, Slots: 1, Log: 24}
	if e := Check(c); e != api.OK {
		t.Errorf("Check: error %d", e)
	}
	checkParts(t, c, 0, 1, 15, 39)
	checkTable(t, c, 0, 2, 0, api.OK)
	checkTable(t, c, 1, 2, 1, api.OK)
	checkTable(t, c, 2, 3, 0, api.OK)
	checkTable(t, c, 3, 0, 0, api.ErrRange)
	checkExtent(t, c, 0, 4, api.OK)
	checkExtent(t, c, 1, 6, api.OK)
	checkExtent(t, c, 2, 8, api.OK)
	checkExtent(t, c, 3, 0, api.ErrRange)
	checkSlot(t, c, 0, 10, api.OK)
	checkSlot(t, c, 1, 0, api.ErrRange)
}

// 15.1, 15.2: the smallest volume and the greatest one, their places written out.
func TestSmallestAndGreatest(t *testing.T) {
	c := api.Config{Extents: 1, Slots: 1, Log: 24}
	checkParts(t, c, 0, 1, 10, 34)
	checkTable(t, c, 0, 2, 0, api.OK)
	checkExtent(t, c, 0, 3, api.OK)
	checkSlot(t, c, 0, 5, api.OK)
	c = api.Config{Extents: 24, Slots: 8, Log: 200}
	checkParts(t, c, 0, 1, 102, 302)
	checkTable(t, c, 0, 2, 0, api.OK)
	checkTable(t, c, 22, 13, 0, api.OK)
	checkTable(t, c, 23, 13, 1, api.OK)
	checkExtent(t, c, 0, 14, api.OK)
	checkExtent(t, c, 23, 60, api.OK)
	checkSlot(t, c, 0, 62, api.OK)
	checkSlot(t, c, 7, 97, api.OK)
}

// 15.1, 15.2: an odd number of extents has as many sectors of the table as one more, and the last sector has one entry.
func TestLastAlone(t *testing.T) {
	for extents := 1; extents < 24; extents += 2 {
		odd, even := api.Config{Extents: extents, Slots: 2, Log: 50}, api.Config{Extents: extents + 1, Slots: 2, Log: 50}
		checkTable(t, odd, extents-1, 2+extents/2, 0, api.OK)
		checkTable(t, odd, extents, 0, 0, api.ErrRange)
		checkTable(t, even, extents, 2+extents/2, 1, api.OK)
		checkExtent(t, odd, 0, 2+extents/2+1, api.OK)
		checkExtent(t, even, 0, 2+extents/2+1, api.OK)
		if a, b := Sectors(odd), Sectors(even); b != a+2 {
			t.Errorf("%d extents: %d sectors, one more: %d", extents, a, b)
		}
	}
}

// 15.1, 15.2: of all volumes that may be each answer is what the chapter's words say.
func TestAll(t *testing.T) {
	each(func(c api.Config) { byWords(t, c) })
}

// 15.2: of each number of extents and slots, those that there are not are refused, near and far.
func TestNone(t *testing.T) {
	for extents := 1; extents <= 24; extents++ {
		for slots := 1; slots <= 8; slots++ {
			c := api.Config{Extents: extents, Slots: slots, Log: 24 + extents + slots}
			for _, i := range append([]int{extents, extents + 1, extents + 2, 24, 25, -extents}, far...) {
				checkTable(t, c, i, 0, 0, api.ErrRange)
				checkExtent(t, c, i, 0, api.ErrRange)
			}
			for _, i := range append([]int{slots, slots + 1, slots + 2, 8, 9, -slots}, far...) {
				checkSlot(t, c, i, 0, api.ErrRange)
			}
		}
	}
}

// marking marks sectors of a part, and tells of those that are beyond the volume, or another part's.
func marking(t *testing.T, c api.Config, of []place) func(p place, at, many int) {
	return func(p place, at, many int) {
		t.Helper()
		for i := at; i < at+many; i++ {
			if i < 0 || i >= len(of) {
				t.Errorf("%v: sector %d of %c %d is beyond %d", c, i, p.part, p.which, len(of))
			} else if of[i] != (place{}) && of[i] != p {
				t.Errorf("%v: sector %d is that of %v and of %v", c, i, of[i], p)
			} else {
				of[i] = p
			}
		}
	}
}

// 15.3: of all volumes that may be, no sector belongs to two parts, and each to one, by what the calls answer.
func TestEachToOne(t *testing.T) {
	each(func(c api.Config) {
		of := make([]place, Sectors(c))
		mark := marking(t, c, of)
		mark(place{'S', 0}, Super(c), 1)
		mark(place{'J', 0}, Journal(c), 1)
		for extent := range c.Extents {
			at, _, _ := Table(c, extent)
			mark(place{'T', extent / 2}, at, 1)
			at, _ = Extent(c, extent)
			mark(place{'E', extent}, at, 2)
		}
		for slot := range c.Slots {
			at, _ := Slot(c, slot)
			mark(place{'Q', slot}, at, 5)
		}
		mark(place{'L', 0}, Log(c), c.Log)
		for at, p := range of {
			if p == (place{}) {
				t.Errorf("%v: sector %d is no part's", c, at)
			}
		}
	})
}

// 15.3: no two extents have the same entry of the table.
func TestEntryOfOne(t *testing.T) {
	each(func(c api.Config) {
		var seen [302][2]bool
		for extent := range c.Extents {
			at, which, e := Table(c, extent)
			if e != api.OK || seen[at][which] {
				t.Errorf("%v: extent %d has %d, %d, error %d", c, extent, at, which, e)
			}
			seen[at][which] = true
		}
	})
}

// 15.1: each volume that may be has room on a disk.
func TestOnDisk(t *testing.T) {
	each(func(c api.Config) {
		if n := Sectors(c); n <= 0 || n > api.MaxSectors {
			t.Errorf("%v: %d sectors", c, n)
		}
	})
}

// P1, and all promises, of any volumes, extents and slots.
func FuzzLayouts(f *testing.F) {
	f.Add(3, 1, 24, 2)
	f.Add(24, 8, 200, 23)
	f.Add(1, 1, 24, 0)
	f.Add(0, 1, 24, 0)
	f.Add(1, 0, 24, 0)
	f.Add(1, 1, 23, 0)
	f.Add(25, 9, 201, 24)
	f.Add(math.MaxInt, math.MaxInt, math.MaxInt, math.MaxInt)
	f.Add(math.MinInt, math.MinInt, math.MinInt, math.MinInt)
	f.Fuzz(func(t *testing.T, extents, slots, log, i int) {
		c := api.Config{Extents: extents, Slots: slots, Log: log}
		if extents < 1 || extents > 24 || slots < 1 || slots > 8 || log < 24 || log > 200 {
			checkRefused(t, c, i)
			return
		}
		byWords(t, c)
		if i < 0 || i >= extents {
			checkTable(t, c, i, 0, 0, api.ErrRange)
			checkExtent(t, c, i, 0, api.ErrRange)
		}
		if i < 0 || i >= slots {
			checkSlot(t, c, i, 0, api.ErrRange)
		}
	})
}
