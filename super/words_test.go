package super

import (
	"hash/crc32"
	"math"
	"strings"
	"testing"

	"solder/api"
)

// Numbers that nothing may be, also such of which some bytes would be a right one, or which wrap round.
var far = []int{-1, -2, -24, -256, -1 << 32, math.MinInt, math.MinInt + 1, 1<<24 + 1, 1 << 25, 1 << 32, 1<<32 + 1, 1<<32 + 24, math.MaxInt - 1, math.MaxInt}

// usual is a node of most tests.
var usual = made(1, 1, 258, 2, 3, 1, 24)

// made is what a node knows of itself, by its numbers.
func made(node, role, boot, cursor, extents, slots, log int) api.Super {
	return api.Super{Node: node, Role: role, Boot: boot, Cursor: cursor, Config: api.Config{Extents: extents, Slots: slots, Log: log}}
}

// allRight is what may be, at each edge, and between.
func allRight() []api.Super {
	var l []api.Super
	for _, node := range []int{0, 1} {
		for _, role := range []int{0, 1} {
			for _, boot := range []int{0, 1, 2, 255, 256, 1 << 16, 1<<16 - 1, 1<<24 - 1, 1 << 24} {
				for _, extents := range []int{1, 2, 3, 23, 24} {
					for _, cursor := range []int{0, extents / 2, extents - 1} {
						for _, slots := range []int{1, 2, 7, 8} {
							for _, log := range []int{24, 25, 128, 199, 200} {
								l = append(l, made(node, role, boot, cursor, extents, slots, log))
							}
						}
					}
				}
			}
		}
	}
	return l
}

// allWrong is what may not be, because just one number is wrong.
func allWrong() []api.Super {
	var l []api.Super
	for _, s := range []api.Super{made(0, 0, 0, 0, 1, 1, 24), usual, made(1, 1, 1<<24, 23, 24, 8, 200)} {
		with := func(near []int, set func(s *api.Super, n int)) {
			for _, n := range append(near, far...) {
				other := s
				set(&other, n)
				l = append(l, other)
			}
		}
		with([]int{2, 3, 255, 256, 257}, func(s *api.Super, n int) { s.Node = n })
		with([]int{2, 3, 255, 256, 257}, func(s *api.Super, n int) { s.Role = n })
		with(nil, func(s *api.Super, n int) { s.Boot = n })
		with([]int{s.Config.Extents, s.Config.Extents + 1, 24, 25, 255, 256}, func(s *api.Super, n int) { s.Cursor = n })
		with([]int{0, 25, 26, 255, 256, 257}, func(s *api.Super, n int) { s.Config.Extents, s.Cursor = n, 0 })
		with([]int{0, 9, 10, 255, 256, 257}, func(s *api.Super, n int) { s.Config.Slots = n })
		with([]int{0, 1, 23, 201, 255, 256, 256 + 24, 65536 + 24}, func(s *api.Super, n int) { s.Config.Log = n })
	}
	return l
}

// checkByWords is what Check comes to by the document's words.
func checkByWords(s api.Super) api.Errno {
	c := s.Config
	if c.Extents < 1 || c.Extents > 24 || c.Slots < 1 || c.Slots > 8 || c.Log < 24 || c.Log > 200 {
		return api.ErrRange
	}
	if s.Node < 0 || s.Node > 1 || s.Role < 0 || s.Role > 1 || s.Boot < 0 || s.Boot > 16777216 || s.Cursor < 0 || s.Cursor > c.Extents-1 {
		return api.ErrRange
	}
	return api.OK
}

// bytesOf is a number as so many bytes, the highest ahead.
func bytesOf(n, size int) string {
	b := make([]byte, size)
	for i := range b {
		b[size-1-i] = byte(n >> (8 * i))
	}
	return string(b)
}

// padded is bytes and noughts, 64 together.
func padded(s string) string { return s + strings.Repeat("\x00", 64-len(s)) }

// withTail is bytes and their tail, by the library's sum and not by the program's.
func withTail(s string) string {
	sum := crc32.ChecksumIEEE([]byte(s))
	return s + string([]byte{byte(sum), byte(sum >> 8), byte(sum >> 16), byte(sum >> 24)})
}

// sectorOf is the sector by the document's words; also that of what may not be.
func sectorOf(s api.Super) string {
	c := s.Config
	return padded(withTail("S" + bytesOf(s.Node, 1) + bytesOf(s.Role, 1) + bytesOf(s.Boot, 4) + bytesOf(s.Cursor, 1) + bytesOf(c.Extents, 1) + bytesOf(c.Slots, 1) + bytesOf(c.Log, 2)))
}

// getByWords is what Get comes to by the document's words.
func getByWords(b string) (api.Super, api.Errno) {
	if len(b) != 64 {
		return api.Super{}, api.ErrSize
	}
	if b[0] != 'S' {
		return api.Super{}, api.ErrForm
	}
	if withTail(b[:12]) != b[:16] {
		return api.Super{}, api.ErrSum
	}
	n := func(at int) int { return int(b[at]) }
	boot := n(3)<<24 + n(4)<<16 + n(5)<<8 + n(6)
	s := made(n(1), n(2), boot, n(7), n(8), n(9), n(10)*256+n(11))
	if checkByWords(s) != api.OK || strings.Trim(b[16:], "\x00") != "" {
		return api.Super{}, api.ErrForm
	}
	return s, api.OK
}

// changed is bytes, with another one at a place.
func changed(s string, at int, b byte) string {
	l := []byte(s)
	l[at] = b
	return string(l)
}

// checkPut holds Put against what is to come.
func checkPut(t *testing.T, s api.Super, want string, e api.Errno) {
	t.Helper()
	if got, gotE := Put(s); got != want || gotE != e {
		t.Errorf("Put(%v) = %q, %d, want %q, %d", s, got, gotE, want, e)
	}
}

// checkGet holds Get against what is to come.
func checkGet(t *testing.T, b string, want api.Super, e api.Errno) {
	t.Helper()
	if got, gotE := Get(b); got != want || gotE != e {
		t.Errorf("Get(%.64q) = %v, %d, want %v, %d", b, got, gotE, want, e)
	}
}
