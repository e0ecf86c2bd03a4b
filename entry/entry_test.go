package entry

import (
	"math"
	"math/rand"
	"strings"
	"testing"

	"solder/api"
)

// Sectors that are known, each by the bytes that noughts follow.
var known = []struct {
	x     [2]api.Entry
	bytes string
}{
	{[2]api.Entry{made(0, 0, -1), made(0, 0, -1)}, "E\x00\x00\x00\x00\x00\x00\x00\x00\x00\x00\x00\x00\x00\x00\x00\x00\x00\x00\x00\x00\x00\x00\x00\x00\x00\x00\x00\x00\x00\x00\xe7\xdf\x69\x53"},
	{[2]api.Entry{made(3, 1, -1), made(2, 2, 0)}, "E\x00\x00\x00\x00\x00\x00\x03\x00\x00\x00\x00\x00\x00\x01\x00\x00\x00\x00\x00\x00\x00\x02\x00\x00\x00\x00\x00\x00\x02\x01\x1e\xc7\x16\xe7"},
	{[2]api.Entry{made(1<<50, 0, 3), made(2, 9, -1)}, "E\x04\x00\x00\x00\x00\x00\x00\x00\x00\x00\x00\x00\x00\x00\x04\x00\x00\x00\x00\x00\x00\x02\x00\x00\x00\x00\x00\x00\x09\x00\x8f\x8c\xef\x89"},
	{[2]api.Entry{made(1<<24+1, 5<<24+1, 7), made(1<<50, 1<<50, 7)}, "E\x00\x00\x00\x01\x00\x00\x01\x00\x00\x00\x05\x00\x00\x01\x08\x04\x00\x00\x00\x00\x00\x00\x04\x00\x00\x00\x00\x00\x00\x08\x39\xc6\x12\x63"},
	{usual, "E\x01\x02\x03\x04\x05\x06\x07\x02\x07\x08\x0a\x0b\x0c\x0d\x05\x03\x0e\x0f\x10\x11\x12\x13\x02\x14\x15\x16\x17\x18\x19\x07\x3b\x8d\xe2\xe6"},
}

// 17.1: what may be, at each edge.
func TestCheck(t *testing.T) {
	for _, x := range allRight() {
		if e := Check(x); e != api.OK {
			t.Errorf("Check(%v): error %d", x, e)
		}
	}
}

// 17.1: what may not be, whichever number it is, and whether it is too small or too great.
func TestCheckWrong(t *testing.T) {
	for _, x := range allWrong() {
		if e := Check(x); e != api.ErrRange {
			t.Errorf("Check(%v): error %d", x, e)
		}
	}
}

// 17.1: each slot near those that may be.
func TestCheckSlots(t *testing.T) {
	for slot := -300; slot <= 300; slot++ {
		want := api.ErrRange
		if slot >= -1 && slot < api.MaxSlots {
			want = api.OK
		}
		if e := Check(made(5, 6, slot)); e != want {
			t.Errorf("Slot %d: error %d", slot, e)
		}
	}
}

// 17.1: whatever several numbers are, right ones and wrong ones.
func TestCheckSeveral(t *testing.T) {
	some := rand.New(rand.NewSource(17))
	pick := func(l []int) int { return l[some.Intn(len(l))] }
	numbers := append(append([]int{}, values...), wrongValues...)
	slots := append([]int{-1, 0, 1, 2, 3, 4, 5, 6, 7}, wrongSlots...)
	for range 100000 {
		x := [2]api.Entry{made(pick(numbers), pick(numbers), pick(slots)), made(pick(numbers), pick(numbers), pick(slots))}
		if e := Check(x[0]); e != checkByWords(x[0]) {
			t.Errorf("Check(%v): error %d, want %d", x[0], e, checkByWords(x[0]))
		}
		want, e := putByWords(x)
		checkPut(t, x, want, e)
	}
}

// 17.1: sectors that are known.
func TestKnown(t *testing.T) {
	for _, k := range known {
		checkPut(t, k.x, padded(k.bytes), api.OK)
		checkGet(t, padded(k.bytes), k.x, api.OK)
	}
}

// 17.1: the mark, both entries in their order, the tail and noughts, at each edge; each number has bytes of its own.
func TestPut(t *testing.T) {
	for _, x := range allRight() {
		for _, other := range []api.Entry{made(0, 0, -1), made(1<<50, 3, 7), x} {
			checkPut(t, [2]api.Entry{x, other}, sectorOf([2]api.Entry{x, other}), api.OK)
			checkPut(t, [2]api.Entry{other, x}, sectorOf([2]api.Entry{other, x}), api.OK)
		}
	}
}

// 17.1: the chapter's example.
func TestExample(t *testing.T) {
	s, e := Put([2]api.Entry{{Slot: -1}, {Slot: -1}})
	if e != api.OK || len(s) != 64 || strings.Trim(s[:31], "\x00") != "E" || s[34] == 0 || s[35:] != strings.Repeat("\x00", 29) {
		t.Errorf("%q, error %d", s, e)
	}
}

// 17.1: of what may not be there is no sector, whether it is the first one, the second one or both.
func TestPutWrong(t *testing.T) {
	wrong := allWrong()
	for i, x := range wrong {
		for _, right := range []api.Entry{made(0, 0, -1), usual[0], made(1<<50, 1<<50, 7)} {
			checkPut(t, [2]api.Entry{x, right}, "", api.ErrRange)
			checkPut(t, [2]api.Entry{right, x}, "", api.ErrRange)
		}
		checkPut(t, [2]api.Entry{x, x}, "", api.ErrRange)
		checkPut(t, [2]api.Entry{x, wrong[len(wrong)-1-i]}, "", api.ErrRange)
	}
}

// 17.1: what is handed in stays as it is.
func TestPutKeeps(t *testing.T) {
	for _, x := range [][2]api.Entry{usual, {made(1, 2, 8), made(3, 4, 7)}, {made(1, 2, 3), made(-1, 4, 7)}} {
		was := x
		Put(x)
		if x != was {
			t.Errorf("%v became %v", was, x)
		}
	}
}

// 17.1: bytes that are not just as many as a sector has, be they right, or begin with another byte, or have another tail.
func TestGetSize(t *testing.T) {
	whole := sectorOf(usual)
	for n := range 64 {
		checkGet(t, whole[:n], [2]api.Entry{}, api.ErrSize)
		checkGet(t, strings.Repeat("\x00", n), [2]api.Entry{}, api.ErrSize)
		checkGet(t, strings.Repeat("E", n), [2]api.Entry{}, api.ErrSize)
	}
	for _, behind := range []string{"\x00", "E", whole, strings.Repeat("\x00", 64), strings.Repeat("\xff", 1000)} {
		checkGet(t, whole+behind, [2]api.Entry{}, api.ErrSize)
		checkGet(t, changed(whole, 0, 'S')+behind, [2]api.Entry{}, api.ErrSize)
		checkGet(t, changed(whole, 31, whole[31]^1)+behind, [2]api.Entry{}, api.ErrSize)
	}
}

// 17.1: a sector that begins with another byte, whether its tail is that of its bytes or not, and whatever else is wrong.
func TestGetMark(t *testing.T) {
	for _, k := range known {
		whole := padded(k.bytes)
		for first := range 256 {
			if first == 'E' {
				continue
			}
			other := changed(whole, 0, byte(first))
			checkGet(t, other, [2]api.Entry{}, api.ErrForm)
			checkGet(t, padded(withTail(other[:31])), [2]api.Entry{}, api.ErrForm)
			checkGet(t, changed(other, 63, 1), [2]api.Entry{}, api.ErrForm)
			checkGet(t, changed(other, 15, 9), [2]api.Entry{}, api.ErrForm)
		}
	}
	for _, b := range []string{"\x00", "\xff", "e", "S"} {
		checkGet(t, strings.Repeat(b, 64), [2]api.Entry{}, api.ErrForm)
	}
}

// 17.1: any byte of the entries or of the tail that is another one, also where the entries may not be, or a byte behind is not 0.
func TestGetSum(t *testing.T) {
	for _, x := range [][2]api.Entry{known[0].x, usual, known[3].x, {made(1<<56-1, 1<<50+1, 8), made(1<<50+1, 0, 254)}} {
		whole := sectorOf(x)
		for at := 1; at < 35; at++ {
			for mask := 1; mask < 256; mask++ {
				other := changed(whole, at, whole[at]^byte(mask))
				checkGet(t, other, [2]api.Entry{}, api.ErrSum)
				checkGet(t, changed(other, 35, 1), [2]api.Entry{}, api.ErrSum)
				checkGet(t, changed(other, 63, 255), [2]api.Entry{}, api.ErrSum)
			}
		}
	}
	checkGet(t, strings.Repeat("E", 64), [2]api.Entry{}, api.ErrSum)
	checkGet(t, padded("E"), [2]api.Entry{}, api.ErrSum)
}

// 17.1: the tail is of all that is ahead of it, not of the entries alone, and not of the noughts too; its lowest byte is ahead.
func TestGetSumOfAll(t *testing.T) {
	for _, k := range known {
		ahead := k.bytes[:31]
		entriesTail := withTail(ahead[1:])[30:]
		firstTail := withTail(ahead[:16])[16:]
		paddedTail := withTail(padded(ahead))[64:]
		turnedRound := string([]byte{k.bytes[34], k.bytes[33], k.bytes[32], k.bytes[31]})
		for _, tail := range []string{entriesTail, firstTail, paddedTail, turnedRound} {
			checkGet(t, padded(ahead+tail), [2]api.Entry{}, api.ErrSum)
		}
	}
}

// 17.1: entries that may not be, though the tail is right: each value that each byte may have, and numbers just above those that may be.
func TestGetWrong(t *testing.T) {
	for _, k := range known {
		for at := 1; at < 31; at++ {
			for b := range 256 {
				other := padded(withTail(changed(k.bytes[:31], at, byte(b))))
				want, e := getByWords(other)
				checkGet(t, other, want, e)
			}
		}
	}
	right := made(1<<50, 1<<50, 7)
	for _, x := range []api.Entry{made(1<<50+1, 0, 0), made(0, 1<<50+1, 0), made(0, 0, 8), made(0, 0, 254), made(1<<51, 2, -1), made(1<<56-1, 1<<56-1, 254)} {
		checkGet(t, sectorOf([2]api.Entry{x, right}), [2]api.Entry{}, api.ErrForm)
		checkGet(t, sectorOf([2]api.Entry{right, x}), [2]api.Entry{}, api.ErrForm)
		checkGet(t, sectorOf([2]api.Entry{x, x}), [2]api.Entry{}, api.ErrForm)
	}
	checkGet(t, sectorOf([2]api.Entry{right, right}), [2]api.Entry{right, right}, api.OK)
}

// 17.1: a byte behind the tail that is not 0, wherever, and whatever it is.
func TestGetBehind(t *testing.T) {
	for _, k := range known {
		whole := padded(k.bytes)
		for at := 35; at < 64; at++ {
			for b := 1; b < 256; b++ {
				checkGet(t, changed(whole, at, byte(b)), [2]api.Entry{}, api.ErrForm)
			}
		}
		checkGet(t, whole[:35]+strings.Repeat(" ", 29), [2]api.Entry{}, api.ErrForm)
		checkGet(t, whole[:35]+whole[:29], [2]api.Entry{}, api.ErrForm)
	}
}

// 17.2: what was put is got, and no two have the same sector.
func TestGetOfPut(t *testing.T) {
	seen := map[string][2]api.Entry{}
	for _, x := range allRight() {
		for _, other := range []api.Entry{made(0, 0, -1), made(1, 2, 0), usual[1], made(1<<50, 1<<50, 7), x} {
			for _, both := range [][2]api.Entry{{x, other}, {other, x}} {
				s, e := Put(both)
				if e != api.OK {
					t.Fatalf("Put(%v): error %d", both, e)
				}
				checkGet(t, s, both, api.OK)
				if was, ok := seen[s]; ok && was != both {
					t.Errorf("%v and %v have the same sector", was, both)
				}
				seen[s] = both
			}
		}
	}
}

// 17.1, 17.2: any numbers with a right tail, and such of which one byte is another one.
func TestAnySector(t *testing.T) {
	some := rand.New(rand.NewSource(35))
	for range 50000 {
		x := [2]api.Entry{}
		for i := range x {
			x[i] = made(some.Intn(1<<50+1<<46), some.Intn(1<<50+1<<46), some.Intn(10)-1)
		}
		whole := sectorOf(x)
		for _, s := range []string{whole, changed(whole, some.Intn(64), byte(some.Intn(256)))} {
			want, e := getByWords(s)
			checkGet(t, s, want, e)
			if e == api.OK {
				checkPut(t, want, s, api.OK)
			}
		}
	}
}

// P1, and all promises, at any numbers and bytes.
func FuzzEntries(f *testing.F) {
	for _, k := range known {
		one, other := k.x[0], k.x[1]
		f.Add(one.V.A, one.V.B, one.Slot, other.V.A, other.V.B, other.Slot, padded(k.bytes))
		f.Add(one.V.A+1, one.V.B, one.Slot, other.V.A, other.V.B-1, other.Slot+1, k.bytes[1:31])
	}
	f.Add(math.MinInt, math.MaxInt, math.MinInt, math.MaxInt, math.MinInt, math.MaxInt, "")
	f.Fuzz(func(t *testing.T, a, b, slot, otherA, otherB, otherSlot int, s string) {
		x := [2]api.Entry{made(a, b, slot), made(otherA, otherB, otherSlot)}
		for _, one := range x {
			if e := Check(one); e != checkByWords(one) {
				t.Errorf("Check(%v): error %d, want %d", one, e, checkByWords(one))
			}
		}
		sector, e := putByWords(x)
		checkPut(t, x, sector, e)
		if e == api.OK {
			checkGet(t, sector, x, api.OK)
		}
		all := []string{s}
		if len(s) <= 30 {
			all = append(all, padded(withTail("E"+s+strings.Repeat("\x00", 30-len(s)))))
		}
		for _, s := range all {
			want, e := getByWords(s)
			checkGet(t, s, want, e)
		}
	})
}
