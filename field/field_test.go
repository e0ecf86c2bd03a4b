package field

import (
	"math"
	"math/big"
	"strings"
	"testing"

	"solder/api"
)

// Sizes that are none, near the edges and far from them.
var noSizes = []int{0, 8, 9, 16, 64, 256, -1, -2, -7, -8, -64, 1 << 32, 1<<32 + 1, math.MaxInt, math.MinInt, math.MinInt + 1}

// Numbers that have no size, as they are below 0 or have more than 7 bytes.
var noNumbers = []int{-1, -2, -255, -256, -1 << 56, math.MinInt, math.MinInt + 1, 1 << 56, 1<<56 + 1, 1 << 62, math.MaxInt}

// Numbers and their bytes.
var fields = []struct {
	n, size int
	bytes   string
}{
	{0, 1, "\x00"},
	{0, 2, "\x00\x00"},
	{0, 7, "\x00\x00\x00\x00\x00\x00\x00"},
	{1, 1, "\x01"},
	{5, 3, "\x00\x00\x05"},
	{65, 1, "A"},
	{127, 1, "\x7f"},
	{128, 1, "\x80"},
	{255, 1, "\xff"},
	{255, 2, "\x00\xff"},
	{256, 2, "\x01\x00"},
	{258, 2, "\x01\x02"},
	{1<<16 - 1, 2, "\xff\xff"},
	{1 << 16, 3, "\x01\x00\x00"},
	{1<<24 - 1, 3, "\xff\xff\xff"},
	{api.MaxCount, 4, "\x10\x00\x00\x00"},
	{0x01020304, 4, "\x01\x02\x03\x04"},
	{1<<31 + 1, 4, "\x80\x00\x00\x01"},
	{0x0102030405, 5, "\x01\x02\x03\x04\x05"},
	{0x0a0b0c0d0e0f, 6, "\x0a\x0b\x0c\x0d\x0e\x0f"},
	{api.MaxValue, 7, "\x04\x00\x00\x00\x00\x00\x00"},
	{0x01020304050607, 7, "\x01\x02\x03\x04\x05\x06\x07"},
	{1<<56 - 1, 7, "\xff\xff\xff\xff\xff\xff\xff"},
}

// Texts that may stand ahead of a field.
var heads = []string{"", "x", "\x00", "\xff\xfe", "\u00e9 \xe2\x88", strings.Repeat("ab", 500)}

// fitsByPower says by the document's words, not by the program's, whether a number has so many bytes.
func fitsByPower(n, size int) bool {
	if size < 1 || size > 7 {
		return false
	}
	power := new(big.Int).Exp(big.NewInt(256), big.NewInt(int64(size)), nil)
	return n >= 0 && big.NewInt(int64(n)).Cmp(power) < 0
}

// Numbers near each power of two, above and below 0.
func numbersNearPowers() []int {
	var l []int
	for i := range 64 {
		for near := -2; near <= 2; near++ {
			l = append(l, 1<<i+near, -1<<i+near)
		}
	}
	return l
}

// 2.1: a number fits from 0 to 256 to the power of the size, less 1.
func TestFits(t *testing.T) {
	for size := 1; size <= 7; size++ {
		top := 1
		for range size {
			top *= 256
		}
		for n, want := range map[int]bool{0: true, 1: true, top / 2: true, top - 1: true, top: false, top + 1: false, -1: false, -top: false, 1 - top: false} {
			if got := Fits(n, size); got != want {
				t.Errorf("Fits(%d, %d) = %v", n, size, got)
			}
		}
	}
}

// 2.1: at numbers near each power of two, and at each size, and what is none.
func TestFitsNearPowers(t *testing.T) {
	for size := -3; size <= 70; size++ {
		for _, n := range numbersNearPowers() {
			if got := Fits(n, size); got != fitsByPower(n, size) {
				t.Errorf("Fits(%d, %d) = %v", n, size, got)
			}
		}
	}
}

// 2.1: of what is no size nothing fits, and no size has a number that is too great or below 0.
func TestFitsNothing(t *testing.T) {
	for _, size := range noSizes {
		for _, n := range append([]int{0, 1, 255, 256, 1<<56 - 1}, noNumbers...) {
			if Fits(n, size) {
				t.Errorf("Fits(%d, %d)", n, size)
			}
		}
	}
	for size := 1; size <= 7; size++ {
		for _, n := range noNumbers {
			if Fits(n, size) {
				t.Errorf("Fits(%d, %d)", n, size)
			}
		}
	}
}

// 2.1: a number's bytes stand behind what is there, the highest ahead.
func TestPut(t *testing.T) {
	for _, f := range fields {
		for _, head := range heads {
			if got := Put(head, f.n, f.size); got != head+f.bytes {
				t.Errorf("Put(%q, %d, %d) = %q, want %q behind", head, f.n, f.size, got, f.bytes)
			}
		}
	}
}

// 2.1: what does not fit is not put.
func TestPutNothing(t *testing.T) {
	for _, head := range heads {
		check := func(n, size int) {
			if got := Put(head, n, size); got != head {
				t.Errorf("Put(%q, %d, %d) = %q", head, n, size, got)
			}
		}
		for _, size := range noSizes {
			for _, n := range []int{0, 1, 255, 1<<56 - 1, -1, math.MinInt, math.MaxInt} {
				check(n, size)
			}
		}
		for size := 1; size <= 7; size++ {
			check(1<<(8*size), size)
			check(1<<(8*size)+1, size)
			for _, n := range noNumbers {
				check(n, size)
			}
		}
	}
}

// looks holds a reader against what is left, and how it ends, twice: asking changes nothing.
func looks(t *testing.T, r *Reader, left int, end api.Errno) {
	t.Helper()
	for range 2 {
		if got := r.Left(); got != left {
			t.Errorf("Left() = %d, want %d", got, left)
		}
		if got := r.End(); got != end {
			t.Errorf("End() = %d, want %d", got, end)
		}
	}
}

// answersNothing asks a reader that has failed, or is nil, for all there is.
func answersNothing(t *testing.T, r *Reader) {
	t.Helper()
	for _, n := range append([]int{0, 1, 2, 3, 4, 5, 6, 7, 8, 100}, noSizes...) {
		if got := r.Num(n); got != 0 {
			t.Errorf("Num(%d) = %d, want 0", n, got)
		}
		if got := r.Bytes(n); got != "" {
			t.Errorf("Bytes(%d) = %q, want nothing", n, got)
		}
	}
}

// 2.2: a number is what the next bytes are, and they are read.
func TestNum(t *testing.T) {
	for _, f := range fields {
		r := New(f.bytes + "z")
		if got := r.Num(f.size); got != f.n {
			t.Errorf("Num(%d) of %q = %d, want %d", f.size, f.bytes, got, f.n)
		}
		looks(t, r, 1, api.ErrMore)
		if got := r.Bytes(1); got != "z" {
			t.Errorf("%q behind %q, want z", got, f.bytes)
		}
		looks(t, r, 0, api.OK)
	}
}

// 2.2: the next bytes are those, whatever they are, and they are read.
func TestBytes(t *testing.T) {
	for _, s := range heads {
		for n := range len(s) + 1 {
			r := New(s)
			if got := r.Bytes(n); got != s[:n] {
				t.Errorf("Bytes(%d) of %q = %q", n, s, got)
			}
			if n < len(s) {
				looks(t, r, len(s)-n, api.ErrMore)
			}
			if got := r.Bytes(len(s) - n); got != s[n:] {
				t.Errorf("%q behind %d bytes of %q", got, n, s)
			}
			looks(t, r, 0, api.OK)
		}
	}
}

// 2.2: no bytes can be read anywhere, also at the end, and that reads none.
func TestNoBytes(t *testing.T) {
	r := New("ab")
	for left := 2; left > 0; left-- {
		if got := r.Bytes(0); got != "" {
			t.Errorf("Bytes(0) = %q", got)
		}
		looks(t, r, left, api.ErrMore)
		r.Bytes(1)
	}
	if got := r.Bytes(0); got != "" {
		t.Errorf("Bytes(0) = %q", got)
	}
	looks(t, r, 0, api.OK)
}

// 2.2: a reader of nothing, as New and as the type itself have it.
func TestReaderOfNothing(t *testing.T) {
	for _, r := range []*Reader{New(""), new(Reader)} {
		looks(t, r, 0, api.OK)
		if got := r.Bytes(0); got != "" {
			t.Errorf("Bytes(0) = %q", got)
		}
		looks(t, r, 0, api.OK)
		if got := r.Num(1); got != 0 {
			t.Errorf("Num(1) = %d", got)
		}
		looks(t, r, 0, api.ErrShort)
	}
}

// 2.2: a size that is none fails, also where bytes are too few; it reads none, and the failure stays.
func TestNumRange(t *testing.T) {
	for _, s := range []string{"", "a", "\xff\xff\xff\xff\xff\xff\xff\xff\xff\xff", strings.Repeat("x", 300)} {
		for _, size := range noSizes {
			r := New(s)
			if got := r.Num(size); got != 0 {
				t.Errorf("Num(%d) of %q = %d", size, s, got)
			}
			looks(t, r, len(s), api.ErrRange)
			answersNothing(t, r)
			looks(t, r, len(s), api.ErrRange)
		}
	}
}

// 2.2: fewer bytes than none fails; it reads none, and the failure stays.
func TestBytesRange(t *testing.T) {
	for _, s := range []string{"", "a", "abcdefghij"} {
		for _, n := range []int{-1, -2, -7, -1 << 32, math.MinInt, math.MinInt + 1} {
			r := New(s)
			if got := r.Bytes(n); got != "" {
				t.Errorf("Bytes(%d) of %q = %q", n, s, got)
			}
			looks(t, r, len(s), api.ErrRange)
			answersNothing(t, r)
			looks(t, r, len(s), api.ErrRange)
		}
	}
}

// 2.2: a number of more bytes than there are fails, at the beginning and further on; it reads none, and the failure stays.
func TestNumShort(t *testing.T) {
	for read := range 3 {
		for left := range 7 {
			for size := left + 1; size <= 7; size++ {
				r := New(strings.Repeat("\xff", read+left))
				r.Bytes(read)
				if got := r.Num(size); got != 0 {
					t.Errorf("Num(%d) of %d bytes = %d", size, left, got)
				}
				looks(t, r, left, api.ErrShort)
				answersNothing(t, r)
				looks(t, r, left, api.ErrShort)
			}
		}
	}
}

// 2.2: more bytes than there are fail, by one or by far; they read none, and the failure stays.
func TestBytesShort(t *testing.T) {
	for read := range 3 {
		for left := range 5 {
			for _, n := range []int{left + 1, left + 2, 100, 1 << 40, math.MaxInt - 1, math.MaxInt} {
				r := New(strings.Repeat("x", read+left))
				r.Bytes(read)
				if got := r.Bytes(n); got != "" {
					t.Errorf("Bytes(%d) of %d = %q", n, left, got)
				}
				looks(t, r, left, api.ErrShort)
				answersNothing(t, r)
				looks(t, r, left, api.ErrShort)
			}
		}
	}
}

// 2.2: bytes that are left are told, unless it has failed; they can be read still.
func TestMore(t *testing.T) {
	r := New("\x01\x02\x03")
	looks(t, r, 3, api.ErrMore)
	if got := r.Num(2); got != 258 {
		t.Errorf("Num(2) = %d", got)
	}
	looks(t, r, 1, api.ErrMore)
	if got := r.Num(1); got != 3 {
		t.Errorf("Num(1) = %d", got)
	}
	looks(t, r, 0, api.OK)
}

// 2.2: of nil 0 and nothing, and ErrState, whatever it was asked for.
func TestNil(t *testing.T) {
	var r *Reader
	looks(t, r, 0, api.ErrState)
	answersNothing(t, r)
	looks(t, r, 0, api.ErrState)
}

// 2.2: two readers of the same bytes know nothing of each other.
func TestReadersApart(t *testing.T) {
	s := "abc"
	first, second := New(s), New(s)
	first.Bytes(2)
	first.Num(9)
	looks(t, first, 1, api.ErrRange)
	looks(t, second, 3, api.ErrMore)
	if got := second.Bytes(3); got != s {
		t.Errorf("Bytes(3) = %q", got)
	}
	looks(t, second, 0, api.OK)
}

// 2.3: all that is put is read as it was, in its order, with bytes between.
func TestReadOfPut(t *testing.T) {
	s := "head"
	for _, f := range fields {
		s = Put(s, f.n, f.size) + "|" + f.bytes
	}
	r := New(s)
	if got := r.Bytes(4); got != "head" {
		t.Errorf("%q, want head", got)
	}
	for _, f := range fields {
		if got := r.Num(f.size); got != f.n {
			t.Errorf("Num(%d) = %d, want %d", f.size, got, f.n)
		}
		if got := r.Bytes(1 + f.size); got != "|"+f.bytes {
			t.Errorf("%q, want | and %q", got, f.bytes)
		}
	}
	looks(t, r, 0, api.OK)
}

// 2.3: each number is read as it was at each size that it fits in.
func TestReadOfPutNearPowers(t *testing.T) {
	for size := 1; size <= 7; size++ {
		for _, n := range numbersNearPowers() {
			s := Put("", n, size)
			if !fitsByPower(n, size) {
				if s != "" {
					t.Errorf("Put of %d, %d: %q", n, size, s)
				}
				continue
			}
			r := New(s)
			if got := r.Num(size); got != n || len(s) != size || r.End() != api.OK {
				t.Errorf("Num(%d) of %q = %d, want %d", size, s, got, n)
			}
		}
	}
}

// P1, and all promises, at any numbers and bytes.
func FuzzFields(f *testing.F) {
	f.Add("", 0, 0, 0)
	f.Add("x", 258, 2, 1)
	f.Add("abcdefgh", 1<<56-1, 7, 9)
	f.Add("\xff", math.MinInt, math.MaxInt, math.MinInt)
	f.Fuzz(func(t *testing.T, s string, n, size, take int) {
		if Fits(n, size) != fitsByPower(n, size) {
			t.Errorf("Fits(%d, %d)", n, size)
		}
		all := Put(s, n, size)
		r := New(all)
		if got := r.Bytes(len(s)); got != s {
			t.Errorf("%q, want %q", got, s)
		}
		if !fitsByPower(n, size) {
			looks(t, r, 0, api.OK)
		} else if got := r.Num(size); got != n {
			t.Errorf("Num(%d) = %d, want %d", size, got, n)
		}
		looks(t, r, 0, api.OK)

		r = New(s)
		got := r.Bytes(take)
		switch {
		case take < 0:
			looks(t, r, len(s), api.ErrRange)
			answersNothing(t, r)
		case take > len(s):
			looks(t, r, len(s), api.ErrShort)
			answersNothing(t, r)
		case got != s[:take] || r.Left() != len(s)-take:
			t.Errorf("Bytes(%d) of %q = %q", take, s, got)
		}
	})
}
