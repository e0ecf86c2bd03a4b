package seal

import (
	"hash/crc32"
	"math"
	"math/rand"
	"strings"
	"testing"

	"solder/api"
)

// Kinds that are none, near the edges and far from them.
var noKinds = []int{-1, -2, -255, -256, 256, 257, 511, 512, 1 << 16, 1 << 32, 1<<32 + 5, math.MaxInt, math.MinInt, math.MinInt + 1}

// Lengths that no body has, up to the greatest that can be told.
var noLengths = []int{601, 602, 700, 767, 768, 856, 1024, 32768, 65534, 65535}

// Sealed bytes that are known.
var known = []struct {
	kind         int
	body, sealed string
}{
	{0, "", "\x00\x00\x00\x12\xd9\x41\xff"},
	{5, "", "\x05\x00\x00\xf9\x1b\x8a\xf9"},
	{255, "a", "\xff\x00\x01a\x62\xb9\xef\xdc"},
	{3, "123456789", "\x03\x00\x09123456789\xdd\x12\xa3\xdd"},
}

// Bodies of many forms, and of each length at which something changes.
func bodies() []string {
	l := []string{"", "\x00", "\xff", "a", "\u00e9 \xe2\x88", "\r\n", strings.Repeat("\x00", 600), strings.Repeat("\xff", 600)}
	var all []byte
	for i := range 600 {
		all = append(all, byte(i*167+13))
	}
	for _, n := range []int{2, 3, 4, 5, 6, 7, 8, 64, 127, 128, 254, 255, 256, 257, 511, 512, 513, 598, 599, 600} {
		l = append(l, string(all[:n]))
	}
	for _, k := range known {
		// What is sealed may be sealed again.
		l = append(l, k.body, k.sealed)
	}
	return l
}

// headOf is a kind and a length as bytes, also a length that no body has.
func headOf(kind, length int) string {
	return string([]byte{byte(kind), byte(length / 256), byte(length % 256)})
}

// withTail is bytes and their tail, by the library's sum and not by the program's.
func withTail(s string) string {
	sum := crc32.ChecksumIEEE([]byte(s))
	return s + string([]byte{byte(sum), byte(sum >> 8), byte(sum >> 16), byte(sum >> 24)})
}

// sealByWords is what Put comes to by the document's words.
func sealByWords(kind int, body string) string { return withTail(headOf(kind, len(body)) + body) }

// firstByWords is what First comes to by the document's words.
func firstByWords(s string) (int, string, string, api.Errno) {
	if len(s) < 7 {
		return 0, "", "", api.ErrShort
	}
	n := int(s[1])*256 + int(s[2])
	switch {
	case n > 600:
		return 0, "", "", api.ErrLong
	case len(s) < 7+n:
		return 0, "", "", api.ErrShort
	case withTail(s[:3+n]) != s[:7+n]:
		return 0, "", "", api.ErrSum
	}
	return int(s[0]), s[3 : 3+n], s[7+n:], api.OK
}

// checkFirst holds First of bytes against what is to come.
func checkFirst(t *testing.T, s string, kind int, body, behind string, e api.Errno) {
	t.Helper()
	gotKind, gotBody, gotBehind, got := First(s)
	if gotKind != kind || gotBody != body || gotBehind != behind || got != e {
		t.Errorf("First(%.40q) = %d, %.40q, %.40q, %d, want %d, %.40q, %.40q, %d", s, gotKind, gotBody, gotBehind, got, kind, body, behind, e)
	}
}

// checkGet holds Get of bytes against what is to come.
func checkGet(t *testing.T, s string, kind int, body string, e api.Errno) {
	t.Helper()
	gotKind, gotBody, got := Get(s)
	if gotKind != kind || gotBody != body || got != e {
		t.Errorf("Get(%.40q) = %d, %.40q, %d, want %d, %.40q, %d", s, gotKind, gotBody, got, kind, body, e)
	}
}

// checkFails sees that neither First nor Get has anything but an error.
func checkFails(t *testing.T, s string, e api.Errno) {
	t.Helper()
	checkFirst(t, s, 0, "", "", e)
	checkGet(t, s, 0, "", e)
}

// checkPut holds Put against what is to come.
func checkPut(t *testing.T, kind int, body, want string, e api.Errno) {
	t.Helper()
	if got, gotE := Put(kind, body); got != want || gotE != e {
		t.Errorf("Put(%d, %.40q) = %.40q, %d, want %.40q, %d", kind, body, got, gotE, want, e)
	}
}

// 4.1, 4.2: sealed bytes that are known.
func TestKnown(t *testing.T) {
	for _, k := range known {
		checkPut(t, k.kind, k.body, k.sealed, api.OK)
		checkGet(t, k.sealed, k.kind, k.body, api.OK)
		checkFirst(t, k.sealed, k.kind, k.body, "", api.OK)
	}
}

// 4.1: the kind, the length, the body and the tail, at each kind and at each length.
func TestPut(t *testing.T) {
	for kind := range 256 {
		for _, body := range bodies() {
			checkPut(t, kind, body, sealByWords(kind, body), api.OK)
		}
	}
	for n := range 601 {
		body := strings.Repeat("x", n)
		checkPut(t, n%256, body, sealByWords(n%256, body), api.OK)
	}
}

// 4.1: a kind that is none; that is said also if the body is too long.
func TestPutKind(t *testing.T) {
	for _, kind := range noKinds {
		for _, n := range []int{0, 1, 600, 601, 1000} {
			checkPut(t, kind, strings.Repeat("x", n), "", api.ErrKind)
		}
	}
}

// 4.1: a body that is too long, also one whose length has no two bytes.
func TestPutLong(t *testing.T) {
	for _, n := range append([]int{65536, 65537, 65536 + 600, 1 << 20}, noLengths...) {
		for _, kind := range []int{0, 1, 255} {
			checkPut(t, kind, strings.Repeat("x", n), "", api.ErrLong)
		}
	}
}

// 4.2: fewer than 7 bytes are too few, whatever body they tell of.
func TestShortOfAll(t *testing.T) {
	for _, s := range []string{"\x00\x00\x00\x12\xd9\x41", "\x01\x02\x59123", "\x01\xff\xff123", "\x00\x00\x00\x00\x00\x00", "abcdef"} {
		for n := range 7 {
			checkFails(t, s[:n], api.ErrShort)
		}
	}
}

// 4.2: a body that is told to be too long, be its bytes and its tail there or not.
func TestLong(t *testing.T) {
	for _, n := range noLengths {
		head := headOf(1, n)
		whole := withTail(head + strings.Repeat("x", n))
		for _, s := range []string{head + "1234", withTail(head), whole, whole[:len(whole)-1], whole + "y"} {
			checkFails(t, s, api.ErrLong)
		}
	}
}

// 4.2: fewer bytes than the body takes, by one or by more; that is said ahead of the tail.
func TestShort(t *testing.T) {
	for _, body := range bodies() {
		s := sealByWords(17, body)
		for n := range len(s) {
			checkFails(t, s[:n], api.ErrShort)
		}
	}
	checkFails(t, headOf(1, 1)+"1234", api.ErrShort)
	checkFails(t, headOf(1, 600)+"1234", api.ErrShort)
	checkFails(t, withTail(headOf(1, 1)), api.ErrShort)
	checkFails(t, headOf(1, 600)+strings.Repeat("x", 603), api.ErrShort)
}

// 4.2: a tail that is another one, with or without something behind.
func TestSum(t *testing.T) {
	for _, body := range bodies() {
		s := sealByWords(17, body)
		for bit := range 32 {
			spoilt := []byte(s)
			spoilt[len(s)-4+bit/8] ^= 1 << (bit % 8)
			checkFails(t, string(spoilt), api.ErrSum)
			checkFails(t, string(spoilt)+"y", api.ErrSum)
		}
	}
	for _, tail := range []string{"\x00\x00\x00\x00", "\xff\xff\xff\xff", "\xff\x41\xd9\x12"} {
		checkFails(t, "\x00\x00\x00"+tail, api.ErrSum)
	}
}

// 4.2: the tail is of the kind and the length too, not of the body alone.
func TestSumOfAll(t *testing.T) {
	for _, body := range bodies() {
		tail := withTail(body)[len(body):]
		checkFails(t, headOf(17, len(body))+body+tail, api.ErrSum)
	}
}

// 4.2: First has what stands behind, whatever it is; Get has nothing then.
func TestBehind(t *testing.T) {
	for _, body := range bodies() {
		s := sealByWords(200, body)
		checkFirst(t, s, 200, body, "", api.OK)
		checkGet(t, s, 200, body, api.OK)
		for _, behind := range []string{"y", "\x00", "\x00\x00\x00\x00", s, strings.Repeat("\xff", 1000)} {
			checkFirst(t, s+behind, 200, body, behind, api.OK)
			checkGet(t, s+behind, 0, "", api.ErrMore)
		}
	}
}

// 4.2: sealed bytes that stand one behind the other are got one by one.
func TestFirstInARow(t *testing.T) {
	all := ""
	for i, body := range bodies() {
		all += sealByWords(i, body)
	}
	for i, body := range bodies() {
		kind, got, behind, e := First(all)
		if kind != i || got != body || e != api.OK {
			t.Fatalf("First() = %d, %.40q, error %d, want %d, %.40q", kind, got, e, i, body)
		}
		all = behind
	}
	checkFails(t, all, api.ErrShort)
}

// 4.3: what was put is got, at each kind and each length.
func TestGetOfPut(t *testing.T) {
	for kind := range 256 {
		for n := kind % 3; n <= 600; n += 3 {
			body := strings.Repeat(string([]byte{byte(kind), byte(n)}), 300)[:n]
			s, e := Put(kind, body)
			if e != api.OK {
				t.Fatalf("Put of %d, %d bytes: error %d", kind, n, e)
			}
			checkGet(t, s, kind, body, api.OK)
		}
	}
}

// turned is bytes, of which some from a place on are turned by a mask's.
func turned(s string, at int, mask []byte) string {
	b := []byte(s)
	for i := range mask {
		b[at+i] ^= mask[i]
	}
	return string(b)
}

// checkNothingGot sees that Get answers an error, and nothing else.
func checkNothingGot(t *testing.T, s string) {
	t.Helper()
	if kind, body, e := Get(s); kind != 0 || body != "" || e == api.OK {
		t.Errorf("Get(%.40q) = %d, %.40q, %d", s, kind, body, e)
	}
}

// 4.3: if one byte is turned, wherever and to whatever, nothing is got.
func TestOneTurned(t *testing.T) {
	for _, body := range []string{"", "a", "\x00\x00\x00\x00", "123456789", strings.Repeat("ab", 60)} {
		s := sealByWords(5, body)
		for at := range len(s) {
			for mask := 1; mask < 256; mask++ {
				checkNothingGot(t, turned(s, at, []byte{byte(mask)}))
			}
		}
	}
}

// 4.3: if some bytes within four in a row are turned, wherever they stand, nothing is got.
func TestFourTurned(t *testing.T) {
	some := rand.New(rand.NewSource(4))
	for _, body := range bodies() {
		s := sealByWords(5, body)
		for at := range len(s) - 3 {
			masks := [][]byte{{255, 255, 255, 255}, {1, 0, 0, 128}, {128, 0, 0, 1}, {0x20, 0x83, 0xb8, 0xed}, {0xed, 0xb8, 0x83, 0x20}, {0, 255, 1, 0}}
			for range 4 {
				masks = append(masks, []byte{byte(some.Intn(256)), byte(some.Intn(256)), byte(some.Intn(256)), byte(1 + some.Intn(255))})
			}
			for _, mask := range masks {
				checkNothingGot(t, turned(s, at, mask))
			}
		}
	}
}

// 4.3: no other kind, body or length than those put has the same bytes.
func TestNoOtherBytes(t *testing.T) {
	seen := map[string]bool{}
	for kind := range 256 {
		for _, body := range []string{"", "\x00", "\x00\x00", "a", "b", "ab", "ba", known[1].sealed} {
			s, _ := Put(kind, body)
			if seen[s] {
				t.Errorf("Put(%d, %q) = %q, that is another's", kind, body, s)
			}
			seen[s] = true
		}
	}
}

// P1, and all promises, at any kinds and bytes.
func FuzzSeals(f *testing.F) {
	for _, k := range known {
		f.Add(k.kind, k.body, k.sealed, 0, uint32(1))
		f.Add(k.kind+256, k.body, k.sealed+"y", 3, uint32(0xEDB88320))
	}
	f.Add(1, strings.Repeat("x", 601), "\x01\xff\xff1234", 1, uint32(1)<<31)
	f.Add(math.MinInt, "", "", math.MinInt, uint32(0))
	f.Fuzz(func(t *testing.T, kind int, body, s string, at int, mask uint32) {
		wantKind, wantBody, behind, e := firstByWords(s)
		checkFirst(t, s, wantKind, wantBody, behind, e)
		if behind != "" {
			wantKind, wantBody, e = 0, "", api.ErrMore
		}
		checkGet(t, s, wantKind, wantBody, e)
		if e == api.OK {
			checkPut(t, wantKind, wantBody, s, api.OK)
		}
		switch {
		case kind < 0 || kind > 255:
			checkPut(t, kind, body, "", api.ErrKind)
			return
		case len(body) > 600:
			checkPut(t, kind, body, "", api.ErrLong)
			return
		}
		sealed := sealByWords(kind, body)
		checkPut(t, kind, body, sealed, api.OK)
		checkGet(t, sealed, kind, body, api.OK)
		checkFirst(t, sealed+s, kind, body, s, api.OK)
		if at >= 0 && at <= len(sealed)-4 && mask != 0 {
			checkNothingGot(t, turned(sealed, at, []byte{byte(mask), byte(mask >> 8), byte(mask >> 16), byte(mask >> 24)}))
		}
	})
}
