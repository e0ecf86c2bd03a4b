package super

import (
	"math"
	"math/rand"
	"strings"
	"testing"

	"solder/api"
)

// Sectors that are known, each by the bytes that noughts follow.
var known = []struct {
	s     api.Super
	bytes string
}{
	{made(0, 0, 0, 0, 1, 1, 24), "S\x00\x00\x00\x00\x00\x00\x00\x01\x01\x00\x18\x97\xdb\x22\x9a"},
	{made(0, 1, 1, 0, 3, 1, 24), "S\x00\x01\x00\x00\x00\x01\x00\x03\x01\x00\x18\x87\xab\xb5\x14"},
	{made(1, 0, 0x010203, 4, 5, 2, 96), "S\x01\x00\x00\x01\x02\x03\x04\x05\x02\x00\x60\x8e\x11\x77\xa0"},
	{made(1, 1, 258, 6, 7, 3, 199), "S\x01\x01\x00\x00\x01\x02\x06\x07\x03\x00\xc7\x81\x74\x12\xe0"},
	{made(1, 1, 1<<24, 23, 24, 8, 200), "S\x01\x01\x01\x00\x00\x00\x17\x18\x08\x00\xc8\xf6\xc1\xc6\xd5"},
}

// 16.1: what may be, at each edge.
func TestCheck(t *testing.T) {
	for _, s := range allRight() {
		if e := Check(s); e != api.OK {
			t.Errorf("Check(%v): error %d", s, e)
		}
	}
}

// 16.1: what may not be, whichever number it is, and whether it is too small or too great.
func TestCheckWrong(t *testing.T) {
	for _, s := range allWrong() {
		if e := Check(s); e != api.ErrRange {
			t.Errorf("Check(%v): error %d", s, e)
		}
	}
}

// 16.1: the cursor is at one of the volume's extents, whatever else the volume has.
func TestCursor(t *testing.T) {
	for extents := 1; extents <= 24; extents++ {
		for cursor := -30; cursor <= 30; cursor++ {
			want := api.ErrRange
			if cursor >= 0 && cursor < extents {
				want = api.OK
			}
			for _, slots := range []int{1, 8} {
				if e := Check(made(0, 0, 0, cursor, extents, slots, 200)); e != want {
					t.Errorf("Cursor %d of %d extents: error %d", cursor, extents, e)
				}
			}
		}
	}
}

// 16.1: whatever several numbers are, right ones and wrong ones.
func TestCheckSeveral(t *testing.T) {
	some := rand.New(rand.NewSource(16))
	pick := func(l []int) int { return l[some.Intn(len(l))] }
	near := append([]int{0, 0, 0, 1, 1, 1, 2, 3, 8, 9, 23, 24, 25, 200, 201, 1 << 24}, far...)
	for range 200000 {
		s := made(pick(near), pick(near), pick(near), pick(near), pick(near), pick(near), pick(near))
		if some.Intn(2) == 0 {
			s.Config = api.Config{Extents: 1 + some.Intn(24), Slots: 1 + some.Intn(8), Log: 24 + some.Intn(177)}
		}
		if e := Check(s); e != checkByWords(s) {
			t.Errorf("Check(%v): error %d, want %d", s, e, checkByWords(s))
		}
	}
}

// 16.2: sectors that are known.
func TestKnown(t *testing.T) {
	for _, k := range known {
		checkPut(t, k.s, padded(k.bytes), api.OK)
		checkGet(t, padded(k.bytes), k.s, api.OK)
	}
}

// 16.2: the mark, the numbers, the tail and noughts, at each edge; each number has bytes of its own.
func TestPut(t *testing.T) {
	for _, s := range allRight() {
		checkPut(t, s, sectorOf(s), api.OK)
	}
	for log := 24; log <= 200; log++ {
		s := made(1, 0, log<<16, log%5, 5, 1+log%8, log)
		checkPut(t, s, sectorOf(s), api.OK)
		checkGet(t, sectorOf(s), s, api.OK)
	}
}

// 16.2: of what may not be there is no sector.
func TestPutWrong(t *testing.T) {
	for _, s := range allWrong() {
		checkPut(t, s, "", api.ErrRange)
	}
}

// 16.2: bytes that are not just as many as a sector has, be they right, or begin with another byte, or have another tail.
func TestGetSize(t *testing.T) {
	whole := sectorOf(usual)
	for n := range 64 {
		checkGet(t, whole[:n], api.Super{}, api.ErrSize)
		checkGet(t, strings.Repeat("\x00", n), api.Super{}, api.ErrSize)
		checkGet(t, strings.Repeat("S", n), api.Super{}, api.ErrSize)
	}
	for _, behind := range []string{"\x00", "S", whole, strings.Repeat("\x00", 64), strings.Repeat("\xff", 1000)} {
		checkGet(t, whole+behind, api.Super{}, api.ErrSize)
		checkGet(t, changed(whole, 0, 'L')+behind, api.Super{}, api.ErrSize)
		checkGet(t, changed(whole, 12, whole[12]^1)+behind, api.Super{}, api.ErrSize)
	}
}

// 16.2: a sector that begins with another byte, whether its tail is that of its bytes or not, and whatever else is wrong.
func TestGetMark(t *testing.T) {
	for _, k := range known {
		whole := padded(k.bytes)
		for first := range 256 {
			if first == 'S' {
				continue
			}
			other := changed(whole, 0, byte(first))
			checkGet(t, other, api.Super{}, api.ErrForm)
			checkGet(t, padded(withTail(other[:12])), api.Super{}, api.ErrForm)
			checkGet(t, changed(other, 63, 1), api.Super{}, api.ErrForm)
			checkGet(t, changed(other, 1, 2), api.Super{}, api.ErrForm)
		}
	}
	for _, b := range []string{"\x00", "\xff", "s", "E"} {
		checkGet(t, strings.Repeat(b, 64), api.Super{}, api.ErrForm)
	}
}

// 16.2: any byte of the numbers or of the tail that is another one, also where the numbers may not be, or a byte behind is not 0.
func TestGetSum(t *testing.T) {
	for _, s := range []api.Super{known[0].s, usual, known[4].s, made(2, 2, 1<<24+1, 24, 24, 9, 201), made(0, 0, 0, 0, 0, 0, 0)} {
		whole := sectorOf(s)
		for at := 1; at < 16; at++ {
			for mask := 1; mask < 256; mask++ {
				other := changed(whole, at, whole[at]^byte(mask))
				checkGet(t, other, api.Super{}, api.ErrSum)
				checkGet(t, changed(other, 16, 1), api.Super{}, api.ErrSum)
				checkGet(t, changed(other, 63, 255), api.Super{}, api.ErrSum)
			}
		}
	}
	checkGet(t, strings.Repeat("S", 64), api.Super{}, api.ErrSum)
	checkGet(t, padded("S"), api.Super{}, api.ErrSum)
}

// 16.2: the tail is of all that is ahead of it, not of the numbers alone, and not of the noughts too; its lowest byte is ahead.
func TestGetSumOfAll(t *testing.T) {
	for _, k := range known {
		ahead := k.bytes[:12]
		numbersTail := withTail(ahead[1:])[11:]
		paddedTail := withTail(padded(ahead))[64:]
		turnedRound := string([]byte{k.bytes[15], k.bytes[14], k.bytes[13], k.bytes[12]})
		for _, tail := range []string{numbersTail, paddedTail, turnedRound} {
			checkGet(t, padded(ahead+tail), api.Super{}, api.ErrSum)
		}
	}
}

// 16.2: numbers that may not be, though the tail is right: each value that a number's bytes have.
func TestGetWrong(t *testing.T) {
	for _, k := range known {
		for at := 1; at < 12; at++ {
			for b := range 256 {
				other := padded(withTail(changed(k.bytes[:12], at, byte(b))))
				want, e := getByWords(other)
				checkGet(t, other, want, e)
			}
		}
	}
	for log := range 65536 {
		s := made(0, 1, 5, 1, 3, 1, log)
		if log >= 24 && log <= 200 {
			checkGet(t, sectorOf(s), s, api.OK)
		} else {
			checkGet(t, sectorOf(s), api.Super{}, api.ErrForm)
		}
	}
	for _, boot := range []int{1<<24 + 1, 1<<24 + 2, 1 << 25, 1<<31 - 1, 1 << 31, 1<<32 - 1} {
		checkGet(t, sectorOf(made(0, 1, boot, 1, 3, 1, 24)), api.Super{}, api.ErrForm)
	}
}

// 16.2: a byte behind the tail that is not 0, wherever, and whatever it is.
func TestGetBehind(t *testing.T) {
	for _, k := range known {
		whole := padded(k.bytes)
		for at := 16; at < 64; at++ {
			for b := 1; b < 256; b++ {
				checkGet(t, changed(whole, at, byte(b)), api.Super{}, api.ErrForm)
			}
		}
		checkGet(t, whole[:16]+strings.Repeat(" ", 48), api.Super{}, api.ErrForm)
		checkGet(t, whole[:16]+whole[:48], api.Super{}, api.ErrForm)
	}
}

// 16.4: what was put is got, and no two have the same sector.
func TestGetOfPut(t *testing.T) {
	seen := map[string]api.Super{}
	for _, s := range allRight() {
		b, e := Put(s)
		if e != api.OK {
			t.Fatalf("Put(%v): error %d", s, e)
		}
		checkGet(t, b, s, api.OK)
		if other, ok := seen[b]; ok && other != s {
			t.Errorf("%v and %v have the same sector", s, other)
		}
		seen[b] = s
	}
}

// 16.2, 16.4: any numbers with a right tail, and such of which one byte is another one.
func TestAnySector(t *testing.T) {
	some := rand.New(rand.NewSource(64))
	for range 50000 {
		ahead := "S" + bytesOf(some.Intn(3), 1) + bytesOf(some.Intn(3), 1) + bytesOf(some.Intn(1<<24+1<<20), 4) + bytesOf(some.Intn(26), 1) + bytesOf(some.Intn(27), 1) + bytesOf(some.Intn(10), 1) + bytesOf(20+some.Intn(190), 2)
		whole := padded(withTail(ahead))
		for _, b := range []string{whole, changed(whole, some.Intn(64), byte(some.Intn(256)))} {
			want, e := getByWords(b)
			checkGet(t, b, want, e)
			if e == api.OK {
				checkPut(t, want, b, api.OK)
			}
		}
	}
}

// P1, and all promises, at any numbers and bytes.
func FuzzSupers(f *testing.F) {
	for _, k := range known {
		c := k.s.Config
		f.Add(k.s.Node, k.s.Role, k.s.Boot, k.s.Cursor, c.Extents, c.Slots, c.Log, padded(k.bytes))
		f.Add(k.s.Node+1, k.s.Role, k.s.Boot+1, k.s.Cursor+1, c.Extents, c.Slots, c.Log, k.bytes[1:12])
	}
	f.Add(math.MinInt, math.MaxInt, math.MinInt, math.MaxInt, math.MinInt, math.MaxInt, math.MinInt, "")
	f.Fuzz(func(t *testing.T, node, role, boot, cursor, extents, slots, log int, b string) {
		s := made(node, role, boot, cursor, extents, slots, log)
		e := checkByWords(s)
		if got := Check(s); got != e {
			t.Errorf("Check(%v): error %d, want %d", s, got, e)
		}
		if e != api.OK {
			checkPut(t, s, "", e)
		} else {
			checkPut(t, s, sectorOf(s), api.OK)
			checkGet(t, sectorOf(s), s, api.OK)
		}
		all := []string{b}
		if len(b) <= 11 {
			all = append(all, padded(withTail("S"+b+strings.Repeat("\x00", 11-len(b)))))
		}
		for _, b := range all {
			want, e := getByWords(b)
			checkGet(t, b, want, e)
			checkLoad(t, laid(t, b), b)
		}
	})
}
