package loghead

import (
	"hash/crc32"
	"math"
	"math/rand"
	"strings"
	"testing"

	"solder/api"
)

// top is the greatest Gen and Seq, as a number of 6 bytes.
const top = 1<<48 - 1

// Heads that are known, each by the bytes that noughts follow.
var known = []struct {
	h     Head
	bytes string
}{
	{Head{}, "L\x00\x00\x00\x00\x00\x00\x00\x00\x00\x00\x00\x00\x00\x00\x7e\xd1\xdd\x58"},
	{Head{1, 1, 0}, "L\x00\x00\x00\x00\x00\x01\x00\x00\x00\x00\x00\x01\x00\x00\x0a\xaf\x64\x4e"},
	{Head{7, 100, 3}, "L\x00\x00\x00\x00\x00\x07\x00\x00\x00\x00\x00\x64\x00\x03\xf1\x8e\x6b\xea"},
	{Head{3, 0x010203040506, 200}, "L\x00\x00\x00\x00\x00\x03\x01\x02\x03\x04\x05\x06\x00\xc8\x60\xee\x9d\xef"},
	{Head{0x0a0b0c0d0e0f, 258, 96}, "L\x0a\x0b\x0c\x0d\x0e\x0f\x00\x00\x00\x00\x01\x02\x00\x60\xf1\x99\x47\x94"},
	{Head{top, top, 200}, "L\xff\xff\xff\xff\xff\xff\xff\xff\xff\xff\xff\xff\x00\xc8\x11\xd4\x6e\xb1"},
}

// Numbers that Gen and Seq may be.
var numbers = []int{0, 1, 2, 255, 256, 1 << 16, 1<<24 + 1, 1<<32 - 1, 1 << 32, 1 << 40, 1<<48 - 2, top}

// Numbers that neither Gen nor Seq may be.
var noNumbers = []int{-1, -2, -200, -top, -1 << 48, 1 << 48, 1<<48 + 1, 1 << 50, 1 << 56, math.MaxInt, math.MinInt, math.MinInt + 1}

// Places that At may be.
var places = []int{0, 1, 2, 24, 127, 128, 199, 200}

// Places that At may not be, also those of which two bytes would be a right one.
var noPlaces = []int{-1, -2, -200, 201, 202, 255, 256, 300, 65535, 65536, 65536 + 200, 1 << 32, math.MaxInt, math.MinInt, math.MinInt + 1}

// heads is all heads of those numbers and places.
func heads() []Head {
	var l []Head
	for _, gen := range numbers {
		for _, seq := range numbers {
			for _, at := range places {
				l = append(l, Head{gen, seq, at})
			}
		}
	}
	return l
}

// bytesOf is a number as so many bytes, the highest ahead.
func bytesOf(n, size int) string {
	b := make([]byte, size)
	for i := range b {
		b[size-1-i] = byte(n >> (8 * i))
	}
	return string(b)
}

// padded is bytes and noughts, 64 together.
func padded(s string) string { return s + strings.Repeat("\x00", 64-len(s)) }

// withTail is bytes and their tail, by the library's sum and not by the program's.
func withTail(s string) string {
	sum := crc32.ChecksumIEEE([]byte(s))
	return s + string([]byte{byte(sum), byte(sum >> 8), byte(sum >> 16), byte(sum >> 24)})
}

// sectorOf is a head's sector by the document's words; also one of a place that may not be.
func sectorOf(h Head) string {
	return padded(withTail("L" + bytesOf(h.Gen, 6) + bytesOf(h.Seq, 6) + bytesOf(h.At, 2)))
}

// mayBe says by the document's words whether a head may be.
func mayBe(h Head) bool {
	return h.Gen >= 0 && h.Gen <= top && h.Seq >= 0 && h.Seq <= top && h.At >= 0 && h.At <= 200
}

// getByWords is what Get comes to by the document's words.
func getByWords(s string) (Head, api.Errno) {
	if len(s) != 64 {
		return Head{}, api.ErrSize
	}
	if s[0] != 'L' {
		return Head{}, api.ErrForm
	}
	if withTail(s[:15]) != s[:19] {
		return Head{}, api.ErrSum
	}
	var all [15]int
	for i := range all {
		all[i] = int(s[i])
	}
	number := func(from, to int) int {
		n := 0
		for _, b := range all[from:to] {
			n = n*256 + b
		}
		return n
	}
	h := Head{number(1, 7), number(7, 13), number(13, 15)}
	if h.At > 200 || strings.Trim(s[19:], "\x00") != "" {
		return Head{}, api.ErrForm
	}
	return h, api.OK
}

// newerByWords is what Newer comes to by the document's words.
func newerByWords(a, b string) (Head, api.Errno) {
	x, noX := getByWords(a)
	y, noY := getByWords(b)
	switch {
	case noX != api.OK && noY != api.OK:
		return Head{}, api.ErrNone
	case noX != api.OK:
		return y, api.OK
	case noY != api.OK || x.Gen >= y.Gen:
		return x, api.OK
	}
	return y, api.OK
}

// changed is bytes, with another one at a place.
func changed(s string, at int, b byte) string {
	l := []byte(s)
	l[at] = b
	return string(l)
}

// checkPut holds Put against what is to come.
func checkPut(t *testing.T, h Head, want string, e api.Errno) {
	t.Helper()
	if got, gotE := Put(h); got != want || gotE != e {
		t.Errorf("Put(%v) = %q, %d, want %q, %d", h, got, gotE, want, e)
	}
}

// checkGet holds Get against what is to come.
func checkGet(t *testing.T, s string, want Head, e api.Errno) {
	t.Helper()
	if got, gotE := Get(s); got != want || gotE != e {
		t.Errorf("Get(%.64q) = %v, %d, want %v, %d", s, got, gotE, want, e)
	}
}

// checkNewer holds Newer against what is to come.
func checkNewer(t *testing.T, a, b string, want Head, e api.Errno) {
	t.Helper()
	if got, gotE := Newer(a, b); got != want || gotE != e {
		t.Errorf("Newer(%.64q, %.64q) = %v, %d, want %v, %d", a, b, got, gotE, want, e)
	}
}

// 10.1: sectors that are known.
func TestKnown(t *testing.T) {
	for _, k := range known {
		checkPut(t, k.h, padded(k.bytes), api.OK)
		checkGet(t, padded(k.bytes), k.h, api.OK)
	}
}

// 10.1: the mark, the numbers, the tail and noughts, at each edge; each field has bytes of its own.
func TestPut(t *testing.T) {
	for _, h := range heads() {
		checkPut(t, h, sectorOf(h), api.OK)
	}
	for at := range 201 {
		h := Head{at * 1000, 1 << 47, at}
		checkPut(t, h, sectorOf(h), api.OK)
		checkGet(t, sectorOf(h), h, api.OK)
	}
}

// 10.1: a head that may not be, whichever of its numbers is wrong, and if several are.
func TestPutRange(t *testing.T) {
	for _, no := range noNumbers {
		for _, n := range numbers {
			for _, at := range places {
				checkPut(t, Head{no, n, at}, "", api.ErrRange)
				checkPut(t, Head{n, no, at}, "", api.ErrRange)
				checkPut(t, Head{no, no, at}, "", api.ErrRange)
			}
		}
	}
	for _, at := range noPlaces {
		for _, n := range append(numbers, noNumbers...) {
			checkPut(t, Head{n, n, at}, "", api.ErrRange)
			checkPut(t, Head{1, n, at}, "", api.ErrRange)
			checkPut(t, Head{n, 1, at}, "", api.ErrRange)
		}
	}
}

// 10.1: bytes that are not just as many as a sector has, be they a head's, or begin with another byte, or have another tail.
func TestGetSize(t *testing.T) {
	whole := sectorOf(Head{7, 100, 3})
	for n := range 64 {
		checkGet(t, whole[:n], Head{}, api.ErrSize)
		checkGet(t, strings.Repeat("\x00", n), Head{}, api.ErrSize)
		checkGet(t, strings.Repeat("L", n), Head{}, api.ErrSize)
	}
	for _, behind := range []string{"\x00", "L", whole, strings.Repeat("\x00", 64), strings.Repeat("\xff", 1000)} {
		checkGet(t, whole+behind, Head{}, api.ErrSize)
		checkGet(t, changed(whole, 0, 'R')+behind, Head{}, api.ErrSize)
		checkGet(t, changed(whole, 15, 0)+behind, Head{}, api.ErrSize)
	}
}

// 10.1: a sector that begins with another byte, whether its tail is that of its bytes or not; also one of noughts.
func TestGetMark(t *testing.T) {
	for _, h := range []Head{{}, {7, 100, 3}, {top, top, 200}} {
		whole := sectorOf(h)
		for first := range 256 {
			if first == 'L' {
				continue
			}
			other := changed(whole, 0, byte(first))
			checkGet(t, other, Head{}, api.ErrForm)
			checkGet(t, padded(withTail(other[:15])), Head{}, api.ErrForm)
			checkGet(t, changed(other, 63, 1), Head{}, api.ErrForm)
		}
	}
	for _, b := range []string{"\x00", "\xff", "l", "S"} {
		checkGet(t, strings.Repeat(b, 64), Head{}, api.ErrForm)
	}
}

// 10.1: any byte of the numbers or of the tail that is another one, also where the head may not be, or a byte behind is not 0.
func TestGetSum(t *testing.T) {
	for _, h := range []Head{{}, {7, 100, 3}, {top, top, 200}, {1, 2, 201}, {1, 2, 65535}} {
		whole := sectorOf(h)
		for at := 1; at < 19; at++ {
			for mask := 1; mask < 256; mask++ {
				other := changed(whole, at, whole[at]^byte(mask))
				checkGet(t, other, Head{}, api.ErrSum)
				checkGet(t, changed(other, 19, 1), Head{}, api.ErrSum)
				checkGet(t, changed(other, 63, 255), Head{}, api.ErrSum)
			}
		}
	}
	checkGet(t, strings.Repeat("L", 64), Head{}, api.ErrSum)
	checkGet(t, padded("L"), Head{}, api.ErrSum)
}

// 10.1: the tail is of all that is ahead of it, not of the numbers alone, and not of the noughts too.
func TestGetSumOfAll(t *testing.T) {
	for _, k := range known {
		ahead := k.bytes[:15]
		numbersTail := withTail(ahead[1:])[14:]
		paddedTail := withTail(padded(ahead))[64:]
		checkGet(t, padded(ahead+numbersTail), Head{}, api.ErrSum)
		checkGet(t, padded(ahead+paddedTail), Head{}, api.ErrSum)
		turnedRound := string([]byte{k.bytes[18], k.bytes[17], k.bytes[16], k.bytes[15]})
		checkGet(t, padded(ahead+turnedRound), Head{}, api.ErrSum)
	}
}

// 10.1: a place that may not be, from the first one on, though the tail is right.
func TestGetPlace(t *testing.T) {
	for at := 201; at < 65536; at++ {
		checkGet(t, sectorOf(Head{7, 100, at}), Head{}, api.ErrForm)
	}
	for _, n := range numbers {
		for _, at := range []int{201, 255, 256, 512, 65535} {
			checkGet(t, sectorOf(Head{n, n, at}), Head{}, api.ErrForm)
		}
	}
}

// 10.1: a byte behind the tail that is not 0, wherever, and whatever it is.
func TestGetBehind(t *testing.T) {
	for _, h := range []Head{{}, {7, 100, 3}, {top, top, 200}} {
		whole := sectorOf(h)
		for at := 19; at < 64; at++ {
			for b := 1; b < 256; b++ {
				checkGet(t, changed(whole, at, byte(b)), Head{}, api.ErrForm)
			}
		}
		checkGet(t, whole[:19]+strings.Repeat(" ", 45), Head{}, api.ErrForm)
		checkGet(t, whole[:19]+whole[:45], Head{}, api.ErrForm)
	}
}

// noHeads is bytes that are no head, each for another reason.
func noHeads() []string {
	whole := sectorOf(Head{1 << 40, 100, 3})
	return []string{
		"", "x", "L", whole[:63], whole + "\x00", whole + whole,
		padded(""), strings.Repeat("\xff", 64), changed(whole, 0, 'R'),
		changed(whole, 5, 1), changed(whole, 18, 0), sectorOf(Head{1 << 40, 100, 201}),
		changed(whole, 19, 1), changed(whole, 63, 1),
	}
}

// 10.2: of two heads the one with the greater Gen counts, wherever it stands, whatever the other numbers are.
func TestNewer(t *testing.T) {
	for i, gen := range numbers {
		for _, other := range numbers[:i] {
			for _, at := range places {
				for _, seq := range []int{0, 100, top} {
					great, small := Head{gen, seq, at}, Head{other, top - seq, 200 - at}
					checkNewer(t, sectorOf(great), sectorOf(small), great, api.OK)
					checkNewer(t, sectorOf(small), sectorOf(great), great, api.OK)
				}
			}
		}
	}
	for gen := range 300 {
		checkNewer(t, sectorOf(Head{gen, 9, 9}), sectorOf(Head{gen + 1, 8, 8}), Head{gen + 1, 8, 8}, api.OK)
		checkNewer(t, sectorOf(Head{gen + 1, 8, 8}), sectorOf(Head{gen, 9, 9}), Head{gen + 1, 8, 8}, api.OK)
	}
}

// 10.2: of heads with the same Gen that of a counts, though b's other numbers are greater, or less, or the same.
func TestNewerAlike(t *testing.T) {
	for _, gen := range numbers {
		for _, l := range [][2]Head{
			{{gen, 1, 1}, {gen, 1, 1}},
			{{gen, 1, 1}, {gen, 2, 1}},
			{{gen, 1, 1}, {gen, 1, 2}},
			{{gen, 0, 0}, {gen, top, 200}},
			{{gen, 5, 9}, {gen, 9, 5}},
		} {
			checkNewer(t, sectorOf(l[0]), sectorOf(l[1]), l[0], api.OK)
			checkNewer(t, sectorOf(l[1]), sectorOf(l[0]), l[1], api.OK)
		}
	}
}

// 10.2: beside what is no head a head counts, also that of Gen 0; of two that are none, neither.
func TestNewerNone(t *testing.T) {
	for _, no := range noHeads() {
		for _, h := range []Head{{}, {0, 0, 1}, {0, 1, 0}, {1, 0, 0}, {3, 7, 5}, {top, top, 200}} {
			checkNewer(t, sectorOf(h), no, h, api.OK)
			checkNewer(t, no, sectorOf(h), h, api.OK)
		}
		for _, also := range noHeads() {
			checkNewer(t, no, also, Head{}, api.ErrNone)
		}
	}
}

// The document's example.
func TestExample(t *testing.T) {
	h := Head{3, 20, 7}
	s, _ := Put(h)
	checkNewer(t, s, strings.Repeat("\x00", 64), h, api.OK)
	checkNewer(t, strings.Repeat("\x00", 64), s, h, api.OK)
}

// 10.3: what was put is got, whichever head, and no two heads have the same sector.
func TestGetOfPut(t *testing.T) {
	seen := map[string]Head{}
	for _, h := range heads() {
		s, e := Put(h)
		if e != api.OK {
			t.Fatalf("Put(%v): error %d", h, e)
		}
		checkGet(t, s, h, api.OK)
		if other, ok := seen[s]; ok {
			t.Errorf("%v and %v have the same sector", h, other)
		}
		seen[s] = h
	}
}

// 10.3: no sector is a head but what Put makes, though just one byte is another one, or the tail is that of its bytes.
func TestNoOtherSector(t *testing.T) {
	some := rand.New(rand.NewSource(10))
	for range 20000 {
		b := make([]byte, 15)
		for i := range b {
			b[i] = byte(some.Intn(256))
		}
		b[0], b[13] = 'L', byte(some.Intn(2))
		s := padded(withTail(string(b)))
		for _, s := range []string{s, changed(s, some.Intn(64), byte(some.Intn(256)))} {
			want, e := getByWords(s)
			checkGet(t, s, want, e)
			if e == api.OK {
				checkPut(t, want, s, api.OK)
			}
		}
	}
}

// P1, and all promises, at any numbers and bytes.
func FuzzHeads(f *testing.F) {
	for _, k := range known {
		f.Add(k.h.Gen, k.h.Seq, k.h.At, padded(k.bytes))
		f.Add(k.h.Gen+1, k.h.Seq, k.h.At+1, k.bytes)
	}
	for _, no := range noHeads() {
		f.Add(0, 0, 0, no)
		f.Add(-1, 1<<48, 201, no)
	}
	f.Add(math.MinInt, math.MaxInt, math.MinInt, "")
	f.Fuzz(func(t *testing.T, gen, seq, at int, s string) {
		h, put := Head{gen, seq, at}, ""
		if mayBe(h) {
			put = sectorOf(h)
			checkPut(t, h, put, api.OK)
			checkGet(t, put, h, api.OK)
		} else {
			checkPut(t, h, "", api.ErrRange)
		}
		made := s
		if len(s) <= 14 {
			made = padded(withTail("L" + s + strings.Repeat("\x00", 14-len(s))))
		}
		for _, a := range []string{put, s, made} {
			want, e := getByWords(a)
			checkGet(t, a, want, e)
			if e == api.OK {
				checkPut(t, want, a, api.OK)
			}
			for _, b := range []string{put, s, made} {
				want, e := newerByWords(a, b)
				checkNewer(t, a, b, want, e)
			}
		}
	})
}
