package journal

import (
	"math/rand"
	"strings"
	"testing"

	"solder/api"
	"solder/marks"
)

// Sectors that are known, each by the bytes that noughts follow.
var known = []struct {
	many, marked int
	bytes        string
}{
	{0, 0, "J\x00\x70\xb5\x4f\x4b"},
	{1, 0, "J\x01\x00\x45\xe0\x57\x9b"},
	{1, 1, "J\x01\x01\xd3\xd0\x50\xec"},
	{8, 1<<0 | 1<<7, "J\x08\x81\xba\xe8\x2a\xd0"},
	{9, 1 << 8, "J\x09\x00\x01\x5c\x6c\x3b\xad"},
	{10, 1<<0 | 1<<9, "J\x0a\x01\x02\xfe\xb2\x6f\x2f"},
	{16, 1<<3 | 1<<8 | 1<<15, "J\x10\x08\x81\x8b\xfd\xad\x9b"},
	{17, 1 << 16, "J\x11\x00\x00\x01\x99\xb7\xc3\x4b"},
	{24, 0, "J\x18\x00\x00\x00\x85\xc8\xcc\x41"},
	{24, 1<<0 | 1<<9 | 1<<23, "J\x18\x01\x02\x80\x10\x43\x80\x9f"},
	{24, 1<<24 - 1, "J\x18\xff\xff\xff\x97\xee\x72\x41"},
}

// 19.1: sectors that are known.
func TestKnown(t *testing.T) {
	for _, k := range known {
		checkPut(t, setOf(k.many, k.marked), padded(k.bytes), api.OK)
		checkGet(t, k.many, padded(k.bytes), k.marked, api.OK)
	}
}

// 19.1: the mark, the number of extents, the marks, the tail and noughts, of each number of extents, none too.
func TestPut(t *testing.T) {
	for many := range 25 {
		for _, marked := range someMarked(many) {
			checkPut(t, setOf(many, marked), sectorOf(many, marked), api.OK)
		}
	}
	checkPut(t, &marks.Set{}, sectorOf(0, 0), api.OK) // one that marks did not make: it has no numbers
}

// 19.1: of no set, and of one of more numbers than a volume may have extents, whether it has any of them, there is no sector.
func TestPutWrong(t *testing.T) {
	checkPut(t, nil, "", api.ErrRange)
	for many := 25; many <= 1000; many++ {
		s := marks.New(many)
		checkPut(t, s, "", api.ErrRange)
		s.Add(0)
		checkPut(t, s, "", api.ErrRange)
		s.Add(many - 1)
		checkPut(t, s, "", api.ErrRange)
	}
}

// 19.1: bytes that are not just as many as a sector has, be they right, or else wrong in each way, and whatever many is.
func TestGetSize(t *testing.T) {
	whole := sectorOf(9, 257)
	for _, many := range append([]int{0, 8, 9, 24}, noMany...) {
		for n := range 64 {
			checkGet(t, many, whole[:n], 0, api.ErrSize)
			checkGet(t, many, strings.Repeat("\x00", n), 0, api.ErrSize)
			checkGet(t, many, strings.Repeat("J", n), 0, api.ErrSize)
		}
		for _, behind := range []string{"\x00", "J", whole, strings.Repeat("\x00", 64), strings.Repeat("\xff", 1000)} {
			checkGet(t, many, whole+behind, 0, api.ErrSize)
			checkGet(t, many, changed(whole, 0, 'S')+behind, 0, api.ErrSize)
			checkGet(t, many, changed(whole, 4, whole[4]^1)+behind, 0, api.ErrSize)
		}
	}
}

// 19.1: a many that is none, also where the sector says just that, or its lowest byte, and whether the tail is right.
func TestGetMany(t *testing.T) {
	for _, many := range noMany {
		for _, k := range known {
			checkGet(t, many, padded(k.bytes), 0, api.ErrForm)
		}
		for width := range 9 {
			ahead := "J" + string([]byte{byte(many)}) + strings.Repeat("\x00", width)
			checkGet(t, many, padded(withTail(ahead)), 0, api.ErrForm)
			checkGet(t, many, padded(ahead), 0, api.ErrForm)
		}
	}
}

// 19.1: the sector of another number of extents, also where the marks have as many bytes; and any second byte that is not many, whether the tail is right.
func TestGetOther(t *testing.T) {
	for many := range 25 {
		for other := range 25 {
			if other != many {
				checkGet(t, many, sectorOf(other, 0), 0, api.ErrForm)
				checkGet(t, many, sectorOf(other, all(other)), 0, api.ErrForm)
			}
		}
		for says := range 256 {
			if says == many {
				continue
			}
			ahead := changed(aheadOf(many, all(many)), 1, byte(says))
			checkGet(t, many, padded(withTail(ahead)), 0, api.ErrForm)
			checkGet(t, many, padded(ahead), 0, api.ErrForm)
			checkGet(t, many, changed(padded(withTail(ahead)), 63, 1), 0, api.ErrForm)
		}
	}
}

// 19.1: a sector that begins with another byte, whether its tail is that of its bytes or not, and whatever else is wrong.
func TestGetMark(t *testing.T) {
	for _, k := range known {
		whole := padded(k.bytes)
		for first := range 256 {
			if first == 'J' {
				continue
			}
			other := changed(whole, 0, byte(first))
			checkGet(t, k.many, other, 0, api.ErrForm)
			checkGet(t, k.many, padded(withTail(other[:len(k.bytes)-4])), 0, api.ErrForm)
			checkGet(t, k.many, changed(other, 63, 1), 0, api.ErrForm)
		}
	}
	for _, b := range []string{"\x00", "\x18", "\xff", "j", "S", "E", "J"} {
		checkGet(t, 24, strings.Repeat(b, 64), 0, api.ErrForm)
		checkGet(t, 0, strings.Repeat(b, 64), 0, api.ErrForm)
	}
}

// 19.1: any byte of the marks or of the tail that is another one, also where a bit is no number, or a byte behind is not 0.
func TestGetSum(t *testing.T) {
	for many := range 25 {
		for _, marked := range []int{0, 1 & all(many), all(many), 0xffffff} {
			ahead := aheadOf(many, marked)
			whole := padded(withTail(ahead))
			for at := 2; at < len(ahead)+4; at++ {
				for mask := 1; mask < 256; mask++ {
					other := changed(whole, at, whole[at]^byte(mask))
					checkGet(t, many, other, 0, api.ErrSum)
					checkGet(t, many, changed(other, len(ahead)+4, 1), 0, api.ErrSum)
					checkGet(t, many, changed(other, 63, 255), 0, api.ErrSum)
				}
			}
		}
		checkGet(t, many, padded(aheadOf(many, 0)), 0, api.ErrSum)
	}
}

// 19.1: the tail is of all that is ahead of it, not of the marks alone, and not of the noughts too; its lowest byte is ahead, and it is behind the marks.
func TestGetSumOfAll(t *testing.T) {
	for _, k := range known {
		end := len(k.bytes) - 4
		ahead, tail := k.bytes[:end], k.bytes[end:]
		marksTail := withTail(ahead[2:])[end-2:]
		behindMark := withTail(ahead[1:])[end-1:]
		paddedTail := withTail(padded(ahead))[64:]
		turnedRound := string([]byte{tail[3], tail[2], tail[1], tail[0]})
		for _, other := range []string{marksTail, behindMark, paddedTail, turnedRound, "\x00" + tail} {
			checkGet(t, k.many, padded(ahead+other), 0, api.ErrSum)
		}
	}
}

// 19.1: bits that are no number, though the tail is right: each byte that the last one of the marks may be.
func TestGetBits(t *testing.T) {
	for many := 1; many <= 24; many++ {
		last := (many - 1) / 8 * 8
		for b := range 256 {
			marked := all(last) | b<<last
			if marked <= all(many) {
				checkGet(t, many, sectorOf(many, marked), marked, api.OK)
			} else {
				checkGet(t, many, sectorOf(many, marked), 0, api.ErrForm)
			}
		}
	}
}

// 19.1: a byte behind the tail that is not 0, wherever, and whatever it is.
func TestGetBehind(t *testing.T) {
	for _, k := range known {
		whole := padded(k.bytes)
		for at := len(k.bytes); at < 64; at++ {
			for b := 1; b < 256; b++ {
				checkGet(t, k.many, changed(whole, at, byte(b)), 0, api.ErrForm)
			}
		}
		checkGet(t, k.many, k.bytes+strings.Repeat(" ", 64-len(k.bytes)), 0, api.ErrForm)
	}
}

// 19.1: what was put is got, and no two have the same sector.
func TestGetOfPut(t *testing.T) {
	seen := map[string][2]int{}
	for many := range 14 {
		for marked := range 1 << many {
			b, e := Put(setOf(many, marked))
			checkErr(t, "Put", e, api.OK)
			checkGet(t, many, b, marked, api.OK)
			if other, ok := seen[b]; ok {
				t.Errorf("%b of %d has the same sector as %v", marked, many, other)
			}
			seen[b] = [2]int{many, marked}
		}
	}
}

// 19.1: a set that was got is nobody else's.
func TestGetOwn(t *testing.T) {
	b := sectorOf(9, 5)
	one, e := Get(9, b)
	checkErr(t, "Get", e, api.OK)
	one.Remove(0)
	one.Add(8)
	checkGet(t, 9, b, 5, api.OK)
	checkSet(t, "the one that was changed", one, api.OK, 9, 1<<8|1<<2, api.OK)
}

// 19.1: any bytes with a right tail, and such of which one byte is another one.
func TestAnySector(t *testing.T) {
	some := rand.New(rand.NewSource(19))
	for range 50000 {
		many := some.Intn(26)
		whole := padded(withTail(aheadOf(many, some.Intn(1<<24))))
		for _, b := range []string{whole, changed(whole, some.Intn(64), byte(some.Intn(256)))} {
			checkGetByWords(t, many, b)
			checkGetByWords(t, some.Intn(27)-1, b)
		}
	}
}

// P1, 19.1, at any numbers and bytes.
func FuzzSectors(f *testing.F) {
	for _, k := range known {
		f.Add(k.many, k.marked, padded(k.bytes))
		f.Add(k.many+1, k.marked<<1, k.bytes)
	}
	f.Add(-1<<63, -1, "")
	f.Add(1<<63-1, 1<<63-1, strings.Repeat("J", 64))
	f.Fuzz(func(t *testing.T, many, marked int, b string) {
		checkGetByWords(t, many, b)
		if len(b) <= 60 {
			checkGetByWords(t, many, padded(withTail(b)))
		}
		checkGetByWords(t, many, sectorOf(many&31, marked))
		few := many & 31
		if few > 24 {
			checkPut(t, setOf(few, marked), "", api.ErrRange)
			return
		}
		marked &= all(few)
		checkPut(t, setOf(few, marked), sectorOf(few, marked), api.OK)
		checkGet(t, few, sectorOf(few, marked), marked, api.OK)
	})
}
