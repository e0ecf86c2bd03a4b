package entry

import (
	"hash/crc32"
	"math"
	"strings"
	"testing"

	"solder/api"
)

// What a side's number may be, at each edge, and between.
var values = []int{0, 1, 2, 255, 256, 0x0102030405, 1<<24 + 1, 1 << 32, 1<<48 + 7, 1<<50 - 1, 1 << 50}

// What a side's number may not be, also such of which some bytes would be a right one.
var wrongValues = []int{-1, -2, -256, -1 << 32, -1 << 50, 1<<50 + 1, 1<<50 + 2, 1 << 51, 1<<56 - 1, 1 << 56, 1<<56 + 1, math.MinInt, math.MinInt + 1, math.MaxInt - 1, math.MaxInt}

// What a slot may not be, likewise.
var wrongSlots = []int{-2, -3, -256, -257, -1 << 32, -1<<32 - 1, 8, 9, 255, 256, 257, 1 << 32, 1<<32 + 1, math.MinInt, math.MinInt + 1, math.MaxInt - 1, math.MaxInt}

// usual are the entries of most tests: each number has bytes of its own.
var usual = [2]api.Entry{made(0x01020304050607, 0x0207080A0B0C0D, 4), made(0x030E0F10111213, 0x02141516171819, 6)}

// made is an entry, by its numbers.
func made(a, b, slot int) api.Entry {
	return api.Entry{V: api.Vector{A: a, B: b}, Slot: slot}
}

// allRight is what may be, at each edge, and between.
func allRight() []api.Entry {
	var l []api.Entry
	for _, a := range values {
		for _, b := range values {
			for slot := -1; slot <= 7; slot++ {
				l = append(l, made(a, b, slot))
			}
		}
	}
	return l
}

// allWrong is what may not be, because just one number is wrong.
func allWrong() []api.Entry {
	var l []api.Entry
	for _, x := range []api.Entry{made(0, 0, -1), made(1<<50, 0, 0), made(0, 1<<50, 7), made(3, 1, 2)} {
		for _, n := range wrongValues {
			l = append(l, made(n, x.V.B, x.Slot), made(x.V.A, n, x.Slot))
		}
		for _, n := range wrongSlots {
			l = append(l, made(x.V.A, x.V.B, n))
		}
	}
	return l
}

// checkByWords is what Check comes to by the document's words.
func checkByWords(x api.Entry) api.Errno {
	const most = 1125899906842624
	if x.V.A < 0 || x.V.A > most || x.V.B < 0 || x.V.B > most || x.Slot < -1 || x.Slot > 7 {
		return api.ErrRange
	}
	return api.OK
}

// bytesOf is a number as so many bytes, the highest ahead.
func bytesOf(n, size int) string {
	b := make([]byte, size)
	for i := range b {
		b[size-1-i] = byte(n >> (8 * i))
	}
	return string(b)
}

// numberOf is the number that bytes stand for.
func numberOf(s string) int {
	n := 0
	for i := range len(s) {
		n = n*256 + int(s[i])
	}
	return n
}

// padded is bytes and noughts, 64 together.
func padded(s string) string { return s + strings.Repeat("\x00", 64-len(s)) }

// withTail is bytes and their tail, by the library's sum and not by the program's.
func withTail(s string) string {
	sum := crc32.ChecksumIEEE([]byte(s))
	return s + string([]byte{byte(sum), byte(sum >> 8), byte(sum >> 16), byte(sum >> 24)})
}

// aheadOf is what is ahead of the tail by the document's words; also that of what may not be.
func aheadOf(x [2]api.Entry) string {
	return "E" + bytesOf(x[0].V.A, 7) + bytesOf(x[0].V.B, 7) + bytesOf(x[0].Slot+1, 1) + bytesOf(x[1].V.A, 7) + bytesOf(x[1].V.B, 7) + bytesOf(x[1].Slot+1, 1)
}

// sectorOf is the sector by the document's words; also that of what may not be.
func sectorOf(x [2]api.Entry) string { return padded(withTail(aheadOf(x))) }

// putByWords is what Put comes to by the document's words.
func putByWords(x [2]api.Entry) (string, api.Errno) {
	for i := range 2 {
		if e := checkByWords(x[i]); e != api.OK {
			return "", e
		}
	}
	return sectorOf(x), api.OK
}

// getByWords is what Get comes to by the document's words.
func getByWords(s string) ([2]api.Entry, api.Errno) {
	none := [2]api.Entry{}
	if len(s) != 64 {
		return none, api.ErrSize
	}
	if s[0] != 'E' {
		return none, api.ErrForm
	}
	if withTail(s[:31]) != s[:35] {
		return none, api.ErrSum
	}
	one := made(numberOf(s[1:8]), numberOf(s[8:15]), numberOf(s[15:16])-1)
	other := made(numberOf(s[16:23]), numberOf(s[23:30]), numberOf(s[30:31])-1)
	if checkByWords(one) != api.OK || checkByWords(other) != api.OK || strings.Trim(s[35:], "\x00") != "" {
		return none, api.ErrForm
	}
	return [2]api.Entry{one, other}, api.OK
}

// changed is bytes, with another one at a place.
func changed(s string, at int, b byte) string {
	l := []byte(s)
	l[at] = b
	return string(l)
}

// checkPut holds Put against what is to come.
func checkPut(t *testing.T, x [2]api.Entry, want string, e api.Errno) {
	t.Helper()
	if got, gotE := Put(x); got != want || gotE != e {
		t.Errorf("Put(%v) = %q, %d, want %q, %d", x, got, gotE, want, e)
	}
}

// checkGet holds Get against what is to come.
func checkGet(t *testing.T, s string, want [2]api.Entry, e api.Errno) {
	t.Helper()
	if got, gotE := Get(s); got != want || gotE != e {
		t.Errorf("Get(%.64q) = %v, %d, want %v, %d", s, got, gotE, want, e)
	}
}
