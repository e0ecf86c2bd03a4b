package cyclic

import (
	"hash/crc32"
	"slices"
	"strings"
	"testing"
)

// behindTail is the sum of any bytes and their Tail.
const behindTail = 0x2144DF1C

// Sums that are known.
var known = []struct {
	s   string
	sum int
}{
	{"", 0},
	{"\x00", 0xD202EF8D},
	{"\xff", 0xFF000000},
	{"\x00\x00\x00\x00", 0x2144DF1C},
	{"\xff\xff\xff\xff", 0xFFFFFFFF},
	{"a", 0xE8B7BE43},
	{"abc", 0x352441C2},
	{"123456789", 0xCBF43926},
	{"The quick brown fox jumps over the lazy dog", 0x414FA339},
	{strings.Repeat("\x00", 32), 0x190A55AD},
	{strings.Repeat("\xff", 32), 0xFF6CAB0B},
}

// Texts of many forms and lengths.
func texts() []string {
	l := []string{"\u00e9 \xe2\x88", "\x80\x80", "\r\n", strings.Repeat("\x00", 700), strings.Repeat("\xff", 700)}
	for _, k := range known {
		l = append(l, k.s)
	}
	var all []byte
	for i := range 256 {
		l = append(l, string([]byte{byte(i)}))
		all = append(all, byte(i*167+13))
	}
	for n := range 70 {
		l = append(l, string(all[:n]))
	}
	return append(l, string(all), strings.Repeat(string(all), 400))
}

// sumByWords says the sum by the document's words, bit by bit, not by the program's.
func sumByWords(s string) int {
	var bits [32]bool // the lowest ahead
	for i := range bits {
		bits[i] = true
	}
	turn := func(by uint32) {
		for i := range bits {
			bits[i] = bits[i] != (by>>i&1 == 1)
		}
	}
	for _, b := range []byte(s) {
		turn(uint32(b))
		for range 8 {
			low := bits[0]
			copy(bits[:], bits[1:])
			bits[31] = false
			if low {
				turn(0xEDB88320)
			}
		}
	}
	turn(0xFFFFFFFF)
	n := 0
	for i, bit := range bits {
		if bit {
			n |= 1 << i
		}
	}
	return n
}

// sumByTable is the library's sum, which is fast enough to be asked often.
func sumByTable(s string) int { return int(crc32.ChecksumIEEE([]byte(s))) }

// 3.1: sums that are known, of nothing, and of the nine digits.
func TestOfKnown(t *testing.T) {
	for _, k := range known {
		if got := Of(k.s); got != k.sum {
			t.Errorf("Of(%q) = %#x, want %#x", k.s, got, k.sum)
		}
	}
}

// 3.1: the sum is what the document's steps come to, and what the library calls CRC-32; it has 32 bits and is not below 0.
func TestOf(t *testing.T) {
	for _, s := range texts() {
		got := Of(s)
		if want := sumByWords(s); got != want {
			t.Errorf("Of(%.40q) = %#x, want %#x", s, got, want)
		}
		if want := sumByTable(s); got != want {
			t.Errorf("Of(%.40q) = %#x, the library has %#x", s, got, want)
		}
		if got < 0 || got > 0xFFFFFFFF {
			t.Errorf("Of(%.40q) = %d", s, got)
		}
		if again := Of(s); again != got {
			t.Errorf("Of(%.40q) = %#x, then %#x", s, got, again)
		}
	}
}

// 3.1: each byte counts, whatever it is and wherever it stands, also a nought ahead of all.
func TestOfEachByte(t *testing.T) {
	whole := strings.Repeat("ab\x00\xff", 10)
	for i := range len(whole) {
		for turned := 1; turned < 256; turned++ {
			other := []byte(whole)
			other[i] ^= byte(turned)
			if Of(string(other)) == Of(whole) {
				t.Errorf("Of(%q) is that of %q", other, whole)
			}
		}
	}
	for _, s := range texts() {
		if Of("\x00"+s) == Of(s) {
			t.Errorf("Of(%.40q) is the same with a nought ahead", s)
		}
	}
}

// 3.1: four bytes of 1s leave nothing to divide, so that noughts behind them, and these alone, change nothing.
func TestOfNothingLeft(t *testing.T) {
	s := "\xff\xff\xff\xff"
	for n := range 20 {
		if got := Of(s + strings.Repeat("\x00", n)); got != 0xFFFFFFFF {
			t.Errorf("Of(%q and %d noughts) = %#x", s, n, got)
		}
	}
	if got := Of(s + "\x01"); got != sumByWords(s+"\x01") || got == 0xFFFFFFFF {
		t.Errorf("Of(%q and 1) = %#x", s, got)
	}
}

// 3.2: a sum of no bytes is 0, as New and as the type itself have it, and stays so behind pieces of none.
func TestStateOfNothing(t *testing.T) {
	for _, c := range []*State{New(), new(State)} {
		for range 3 {
			if got := c.Sum(); got != 0 {
				t.Errorf("Sum() of no bytes = %#x", got)
			}
			c.Add("")
		}
		c.Add("123456789")
		if got := c.Sum(); got != 0xCBF43926 {
			t.Errorf("Sum() = %#x", got)
		}
	}
}

// 3.2: in two pieces, cut wherever, it is the sum of the whole.
func TestStateInTwo(t *testing.T) {
	for _, s := range texts() {
		for cut := 0; cut <= len(s) && cut <= 100; cut++ {
			c := New()
			c.Add(s[:cut])
			c.Add(s[cut:])
			if got := c.Sum(); got != sumByTable(s) {
				t.Errorf("Sum() of %.40q cut at %d = %#x", s, cut, got)
			}
		}
	}
}

// 3.2: behind each piece it is the sum of all so far; asking, also twice, and pieces of no bytes change nothing.
func TestStateGoesOn(t *testing.T) {
	c := New()
	far := ""
	for _, piece := range texts() {
		c.Add(piece)
		far += piece
		for range 2 {
			if got := c.Sum(); got != sumByTable(far) {
				t.Fatalf("Sum() behind %d bytes = %#x, want %#x", len(far), got, sumByTable(far))
			}
			c.Add("")
		}
	}
}

// 3.2: the order of pieces counts.
func TestStateOrder(t *testing.T) {
	c := New()
	c.Add("56789")
	c.Add("1234")
	if got := c.Sum(); got != sumByWords("567891234") || got == 0xCBF43926 {
		t.Errorf("Sum() = %#x", got)
	}
}

// 3.2: two sums know nothing of each other.
func TestStatesApart(t *testing.T) {
	first, second := New(), New()
	first.Add("a")
	if got := second.Sum(); got != 0 {
		t.Errorf("Sum() = %#x, want 0", got)
	}
	second.Add("123456789")
	if got := first.Sum(); got != 0xE8B7BE43 {
		t.Errorf("Sum() = %#x, want that of a", got)
	}
	if got := second.Sum(); got != 0xCBF43926 {
		t.Errorf("Sum() = %#x, want that of the digits", got)
	}
}

// 3.2: nil takes nothing, and its sum is 0.
func TestStateNil(t *testing.T) {
	var c *State
	for _, s := range []string{"", "a", "123456789"} {
		c.Add(s)
		if got := c.Sum(); got != 0 {
			t.Errorf("Sum() of nil = %#x", got)
		}
	}
}

// 3.3: tails that are known, also those with noughts at their ends.
func TestTailKnown(t *testing.T) {
	for s, want := range map[string]string{
		"":          "\x00\x00\x00\x00",
		"\xff":      "\x00\x00\x00\xff",
		"\x00":      "\x8d\xef\x02\xd2",
		"a":         "\x43\xbe\xb7\xe8",
		"123456789": "\x26\x39\xf4\xcb",
	} {
		if got := Tail(s); got != want {
			t.Errorf("Tail(%q) = %q, want %q", s, got, want)
		}
	}
}

// 3.3: a tail is always four bytes, and they are the sum's, the lowest ahead.
func TestTail(t *testing.T) {
	for _, s := range texts() {
		sum := sumByWords(s)
		want := []byte{byte(sum % 256), byte(sum / 256 % 256), byte(sum / 65536 % 256), byte(sum / 16777216)}
		if got := []byte(Tail(s)); !slices.Equal(got, want) {
			t.Errorf("Tail(%.40q) = %q, want %q", s, got, want)
		}
	}
}

// 3.4: behind its tail the sum of each text is the same, at once and in pieces.
func TestOfTail(t *testing.T) {
	for _, s := range texts() {
		tail := Tail(s)
		if got := Of(s + tail); got != behindTail {
			t.Errorf("Of(%.40q and its tail) = %#x", s, got)
		}
		c := New()
		c.Add(s)
		c.Add(tail)
		if got := c.Sum(); got != behindTail {
			t.Errorf("Sum() of %.40q and its tail = %#x", s, got)
		}
	}
}

// 3.4: behind other bytes than its tail the sum is another one.
func TestOfNoTail(t *testing.T) {
	for _, s := range []string{"", "a", "123456789", "\x00\xff"} {
		for bit := range 32 {
			tail := []byte(Tail(s))
			tail[bit/8] ^= 1 << (bit % 8)
			if got := Of(s + string(tail)); got == behindTail {
				t.Errorf("Of(%q and %q) = %#x", s, tail, got)
			}
		}
	}
}

// P1, and all promises, at any bytes in any pieces.
func FuzzSums(f *testing.F) {
	for _, k := range known {
		f.Add(k.s, "")
		f.Add("", k.s)
		f.Add(k.s, "\xff\x00"+k.s)
	}
	f.Fuzz(func(t *testing.T, ahead, behind string) {
		whole := ahead + behind
		want := sumByWords(whole)
		if got := Of(whole); got != want {
			t.Errorf("Of(%q) = %#x, want %#x", whole, got, want)
		}
		c := New()
		c.Add(ahead)
		if got := c.Sum(); got != Of(ahead) {
			t.Errorf("Sum() of %q = %#x", ahead, got)
		}
		c.Add(behind)
		if got := c.Sum(); got != want {
			t.Errorf("Sum() of %q and %q = %#x, want %#x", ahead, behind, got, want)
		}
		tail := Tail(whole)
		if len(tail) != 4 || Of(whole+tail) != behindTail {
			t.Errorf("Tail(%q) = %q", whole, tail)
		}
		var none *State
		none.Add(whole)
		if got := none.Sum(); got != 0 {
			t.Errorf("Sum() of nil = %#x", got)
		}
	})
}
