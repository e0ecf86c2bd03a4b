package slot

import (
	"hash/crc32"
	"math"
	"strings"
	"testing"

	"solder/api"
)

// Bytes that versions have: of one kind, and such of which no two are the same.
var (
	noughts  = strings.Repeat("\x00", 128)
	ones     = strings.Repeat("\xff", 128)
	letterAs = strings.Repeat("a", 128)
	letterBs = strings.Repeat("b", 128)
	rising   = fromOn(0, 1)
	falling  = fromOn(255, -1)
)

// fromOn are 128 bytes from one on, each so much more than the one ahead.
func fromOn(first, step int) string {
	l := make([]byte, 128)
	for i := range l {
		l[i] = byte(first + i*step)
	}
	return string(l)
}

// What a side's number may not be, also such of which some bytes would be a right one.
var wrongValues = []int{-1, -2, -256, -1 << 32, -1 << 50, 1<<50 + 1, 1<<50 + 2, 1 << 51, 1<<56 - 1, 1 << 56, 1<<56 + 1, math.MinInt, math.MinInt + 1, math.MaxInt - 1, math.MaxInt}

// What an extent may not be, likewise.
var wrongExtents = []int{-1, -2, -255, -256, -257, -1 << 32, -1<<32 - 1, 24, 25, 255, 256, 257, 1 << 32, 1<<32 + 1, math.MinInt, math.MinInt + 1, math.MaxInt - 1, math.MaxInt}

// usual are the versions of most tests: each number has bytes of its own.
var usual = made(17, vec(0x02020304050607, 0x01090A0B0C0D0E), vec(0x01101112131415, 0x03171819202122), rising, falling)

// vec is a vector, by its numbers.
func vec(a, b int) api.Vector { return api.Vector{A: a, B: b} }

// made is versions, by what they are of.
func made(extent int, a, b api.Vector, dataA, dataB string) api.Pair {
	return api.Pair{Extent: extent, A: api.Version{V: a, Data: dataA}, B: api.Version{V: b, Data: dataB}}
}

// What the vectors may be together, at each edge, and between.
var beside = [][2]api.Vector{
	{vec(1, 0), vec(0, 1)}, {vec(2, 0), vec(1, 1)}, {vec(9, 1), vec(8, 2)}, {vec(3, 1), vec(2, 2)}, {vec(256, 0), vec(255, 1)},
	{vec(1<<50, 0), vec(0, 1<<50)}, {vec(1<<50, 1<<50-1), vec(1<<50-1, 1<<50)}, {vec(1, 1<<50-1), vec(0, 1<<50)}, {vec(1<<50, 0), vec(1<<50-1, 1)},
	{vec(1<<24+1, 7), vec(1<<24, 5<<24+1)}, {usual.A.V, usual.B.V},
}

// What the vectors may not be together, though each of them may be.
var notBeside = [][2]api.Vector{
	{vec(0, 0), vec(0, 0)}, {vec(5, 7), vec(5, 7)}, {vec(1<<50, 1<<50), vec(1<<50, 1<<50)}, {vec(1, 0), vec(0, 0)}, {vec(0, 1), vec(0, 0)},
	{vec(0, 0), vec(1, 0)}, {vec(0, 0), vec(0, 1)}, {vec(2, 2), vec(1, 1)}, {vec(1, 1), vec(2, 2)}, {vec(1<<50, 3), vec(1<<50, 2)},
	{vec(0, 1), vec(1, 0)}, {vec(1, 1), vec(2, 0)}, {vec(8, 2), vec(9, 1)}, {vec(0, 1<<50), vec(1<<50, 0)}, {vec(1<<50-1, 1<<50), vec(1<<50, 1<<50-1)},
}

// allRight is what may be, at each edge, and between.
func allRight() []api.Pair {
	var l []api.Pair
	for _, v := range beside {
		for _, extent := range []int{0, 1, 5, 22, 23} {
			for _, data := range [][2]string{{letterAs, letterBs}, {letterBs, letterAs}, {noughts, noughts}, {ones, noughts}, {rising, falling}} {
				l = append(l, made(extent, v[0], v[1], data[0], data[1]))
			}
		}
	}
	return l
}

// mayValue tells whether a side's number may be, by the document's words.
func mayValue(n int) bool {
	const most = 1125899906842624
	return n >= 0 && n <= most
}

// checkByWords is what Check comes to by the document's words.
func checkByWords(p api.Pair) api.Errno {
	a, b := p.A.V, p.B.V
	if p.Extent < 0 || p.Extent > 23 || !mayValue(a.A) || !mayValue(a.B) || !mayValue(b.A) || !mayValue(b.B) {
		return api.ErrRange
	}
	if len(p.A.Data) != 128 || len(p.B.Data) != 128 {
		return api.ErrSize
	}
	// Of two beside one another each is further on one side.
	if !(a.A > b.A && b.B > a.B) {
		return api.ErrState
	}
	return api.OK
}

// bytesOf is a number as so many bytes, the highest ahead.
func bytesOf(n, size int) string {
	b := make([]byte, size)
	for i := range b {
		b[size-1-i] = byte(n >> (8 * i))
	}
	return string(b)
}

// numberOf is the number that bytes stand for.
func numberOf(s string) int {
	n := 0
	for i := range len(s) {
		n = n*256 + int(s[i])
	}
	return n
}

// padded is bytes and noughts, 64 together.
func padded(s string) string { return s + strings.Repeat("\x00", 64-len(s)) }

// tailOf is bytes' tail, by the library's sum and not by the program's.
func tailOf(s string) string {
	sum := crc32.ChecksumIEEE([]byte(s))
	return string([]byte{byte(sum), byte(sum >> 8), byte(sum >> 16), byte(sum >> 24)})
}

// withTail is bytes and their tail.
func withTail(s string) string { return s + tailOf(s) }

// saidOf is what is ahead of both tails by the document's words; also that of what may not be.
func saidOf(p api.Pair) string {
	return "Q" + bytesOf(p.Extent, 1) + bytesOf(p.A.V.A, 7) + bytesOf(p.A.V.B, 7) + bytesOf(p.B.V.A, 7) + bytesOf(p.B.V.B, 7)
}

// sectorsOf are the sectors by the document's words; also those of what may not be.
func sectorsOf(p api.Pair) string {
	data := p.A.Data + p.B.Data
	return padded(withTail(saidOf(p)+tailOf(data))) + data
}

// putByWords is what Put comes to by the document's words.
func putByWords(p api.Pair) (string, api.Errno) {
	if e := checkByWords(p); e != api.OK {
		return "", e
	}
	return sectorsOf(p), api.OK
}

// getByWords is what Get comes to by the document's words.
func getByWords(s string) (api.Pair, bool, api.Errno) {
	none := api.Pair{}
	if len(s) != 5*64 {
		return none, false, api.ErrSize
	}
	if s[:64] == padded("") {
		return none, false, api.OK
	}
	if s[0] != 'Q' {
		return none, false, api.ErrForm
	}
	if tailOf(s[:34]) != s[34:38] || tailOf(s[64:]) != s[30:34] {
		return none, false, api.ErrSum
	}
	a, b := vec(numberOf(s[2:9]), numberOf(s[9:16])), vec(numberOf(s[16:23]), numberOf(s[23:30]))
	p := made(numberOf(s[1:2]), a, b, s[64:192], s[192:])
	if checkByWords(p) != api.OK || strings.Trim(s[38:64], "\x00") != "" {
		return none, false, api.ErrForm
	}
	return p, true, api.OK
}

// changed is bytes, with another one at a place.
func changed(s string, at int, b byte) string {
	l := []byte(s)
	l[at] = b
	return string(l)
}

// checkCheck holds Check against what is to come.
func checkCheck(t *testing.T, p api.Pair, e api.Errno) {
	t.Helper()
	if got := Check(p); got != e {
		t.Errorf("Check(%v): error %d, want %d", p, got, e)
	}
}

// checkPut holds Put against what is to come.
func checkPut(t *testing.T, p api.Pair, want string, e api.Errno) {
	t.Helper()
	if got, gotE := Put(p); got != want || gotE != e {
		t.Errorf("Put(%v) = %q, %d, want %q, %d", p, got, gotE, want, e)
	}
}

// checkGet holds Get against what is to come.
func checkGet(t *testing.T, s string, want api.Pair, is bool, e api.Errno) {
	t.Helper()
	if got, gotIs, gotE := Get(s); got != want || gotIs != is || gotE != e {
		t.Errorf("Get(%.80q) = %v, %t, %d, want %v, %t, %d", s, got, gotIs, gotE, want, is, e)
	}
}

// checkNone holds Get against an error, or nothing.
func checkNone(t *testing.T, s string, e api.Errno) {
	t.Helper()
	checkGet(t, s, api.Pair{}, false, e)
}
