package marks

import (
	"math"
	"slices"
	"strings"
	"testing"

	"solder/api"
)

// Limits of sets, those that are held within bounds among them, and what they are held at.
var limits = []struct{ asked, held int }{
	{0, 0}, {1, 1}, {2, 2}, {7, 7}, {8, 8}, {9, 9}, {10, 10}, {15, 15}, {16, 16}, {17, 17}, {24, 24}, {63, 63}, {64, 64}, {65, 65},
	{992, 992}, {993, 993}, {999, 999}, {1000, 1000}, {1001, 1000}, {1008, 1000}, {1 << 32, 1000}, {1<<32 + 1, 1000}, {math.MaxInt, 1000},
	{-1, 0}, {-8, 0}, {-1000, 0}, {-1 << 32, 0}, {math.MinInt, 0}, {math.MinInt + 1, 0},
}

// Numbers that no set has, near and far.
var never = []int{-1, -2, -7, -8, -9, -1000, -1 << 32, math.MinInt, math.MinInt + 1, 1000, 1001, 1007, 1008, 1 << 32, 1<<32 + 1, math.MaxInt}

// told is what All tells.
func told(s *Set) []int {
	var l []int
	for i := range s.All() {
		l = append(l, i)
	}
	return l
}

// setOf is a set of these numbers.
func setOf(t *testing.T, many int, numbers ...int) *Set {
	t.Helper()
	s := New(many)
	for _, i := range numbers {
		if !s.Add(i) {
			t.Fatalf("Add(%d) to one of %d", i, many)
		}
	}
	return s
}

// rising is all numbers below a limit for which a question is answered yes.
func rising(many int, is func(int) bool) []int {
	var l []int
	for i := range many {
		if is(i) {
			l = append(l, i)
		}
	}
	return l
}

// nextByWords is 7.2's Next of rising numbers.
func nextByWords(l []int, from int) (int, bool) {
	for _, i := range l {
		if i >= from {
			return i, true
		}
	}
	if len(l) > 0 {
		return l[0], true
	}
	return 0, false
}

// freeByWords is 7.2's Free of rising numbers below a limit.
func freeByWords(l []int, many int) (int, bool) {
	for i := range many {
		if !slices.Contains(l, i) {
			return i, true
		}
	}
	return 0, false
}

// bytesByWords is 7.3's Bytes of numbers below a limit.
func bytesByWords(l []int, many int) string {
	length := many / 8
	if many%8 != 0 {
		length++
	}
	b := make([]byte, length)
	for _, i := range l {
		b[i/8] += [8]byte{1, 2, 4, 8, 16, 32, 64, 128}[i%8]
	}
	return string(b)
}

// checkHas sees that just these numbers, rising, are in a set of a limit, by all calls that change nothing.
func checkHas(t *testing.T, s *Set, want []int, many int) {
	t.Helper()
	if got := told(s); !slices.Equal(got, want) {
		t.Errorf("All: %v, want %v", got, want)
	}
	if s.Many() != many || s.Len() != len(want) {
		t.Errorf("Many %d, Len %d, want %d, %d", s.Many(), s.Len(), many, len(want))
	}
	for i := range 1010 {
		if got := s.Has(i); got != slices.Contains(want, i) {
			t.Errorf("Has(%d) = %v of %v", i, got, want)
		}
	}
	for _, i := range never {
		if s.Has(i) {
			t.Errorf("Has(%d) of one of %d", i, many)
		}
	}
	for _, from := range append([]int{0, 1, 7, 8, many / 2, many - 1, many, many + 1}, never...) {
		n, ok := nextByWords(want, from)
		if got, had := s.Next(from); got != n || had != ok {
			t.Errorf("Next(%d) = %d, %v, want %d, %v", from, got, had, n, ok)
		}
	}
	n, ok := freeByWords(want, many)
	if got, had := s.Free(); got != n || had != ok {
		t.Errorf("Free = %d, %v, want %d, %v", got, had, n, ok)
	}
	if got, b := s.Bytes(), bytesByWords(want, many); got != b {
		t.Errorf("Bytes: %q, want %q", got, b)
	}
}

// checkReads sees that Read answers a set of these numbers.
func checkReads(t *testing.T, many int, text string, want []int, held int) {
	t.Helper()
	s, e := Read(many, text)
	if e != api.OK || s == nil {
		t.Errorf("Read(%d, %q): %v, error %d", many, text, s, e)
		return
	}
	checkHas(t, s, want, held)
}

// checkRefuses sees that Read answers nil and an error.
func checkRefuses(t *testing.T, many int, text string, want api.Errno) {
	t.Helper()
	if s, e := Read(many, text); s != nil || e != want {
		t.Errorf("Read(%d, %q): %v, error %d, want nil, %d", many, text, s, e, want)
	}
}

// 7.1: a new one has no numbers, and its limit is held from 0 to 1000.
func TestNew(t *testing.T) {
	for _, c := range limits {
		checkHas(t, New(c.asked), nil, c.held)
	}
}

// 7.1: each number from 0 to many less 1 may be added, once; no other one, and what is refused changes nothing.
func TestAdd(t *testing.T) {
	for _, c := range limits {
		s := New(c.asked)
		for i := range c.held {
			if !s.Add(i) || s.Add(i) || !s.Has(i) || s.Len() != i+1 {
				t.Errorf("Add(%d) to one of %d", i, c.asked)
			}
		}
		all := rising(c.held, func(int) bool { return true })
		checkHas(t, s, all, c.held)
		for _, i := range append([]int{c.held, c.held + 1, c.held + 7, c.held + 8}, never...) {
			if s.Add(i) || New(c.asked).Add(i) {
				t.Errorf("Add(%d) to one of %d", i, c.asked)
			}
		}
		checkHas(t, s, all, c.held)
	}
}

// 7.1: a number is added alone, in any order, and stays till it is removed.
func TestAddOne(t *testing.T) {
	for i := range 20 {
		checkHas(t, setOf(t, 20, i), []int{i}, 20)
	}
	checkHas(t, setOf(t, 20, 19, 3, 8, 0, 7), []int{0, 3, 7, 8, 19}, 20)
	checkHas(t, setOf(t, 1000, 999, 0, 500), []int{0, 500, 999}, 1000)
}

// 7.1: a number that is one is removed, once, and may be added again; one that is none is not, and nothing changes.
func TestRemove(t *testing.T) {
	for _, c := range limits {
		s := setOf(t, c.asked, rising(c.held, func(int) bool { return true })...)
		for i := range c.held {
			if !s.Remove(i) || s.Remove(i) || s.Has(i) || s.Len() != c.held-1 {
				t.Errorf("Remove(%d) of one of %d", i, c.asked)
			}
			if !s.Add(i) || !s.Has(i) {
				t.Errorf("Add(%d) again to one of %d", i, c.asked)
			}
		}
		for _, i := range append([]int{c.held, c.held + 1, c.held + 7, c.held + 8}, never...) {
			if s.Remove(i) || New(c.asked).Remove(i) {
				t.Errorf("Remove(%d) of one of %d", i, c.asked)
			}
		}
		checkHas(t, s, rising(c.held, func(int) bool { return true }), c.held)
	}
}

// 7.1: what is removed is no more in, and all others are.
func TestRemoveSome(t *testing.T) {
	s := setOf(t, 18, 0, 1, 7, 8, 9, 15, 16, 17)
	want := []int{0, 1, 7, 8, 9, 15, 16, 17}
	for _, i := range []int{8, 0, 17, 15, 1, 16, 9, 7} {
		if !s.Remove(i) {
			t.Errorf("Remove(%d)", i)
		}
		want = slices.DeleteFunc(want, func(x int) bool { return x == i })
		checkHas(t, s, want, 18)
		if s.Remove(2) || s.Remove(18) || s.Remove(i) {
			t.Errorf("removed one that is none, behind %d", i)
		}
		checkHas(t, s, want, 18)
	}
}

// 7.2: the least number that is not below from; if there is none, the least of all; 0 and false of none.
func TestNext(t *testing.T) {
	s := setOf(t, 12, 3, 11, 5)
	for from, want := range []int{3, 3, 3, 3, 5, 5, 11, 11, 11, 11, 11, 11, 3, 3} {
		if got, ok := s.Next(from); got != want || !ok {
			t.Errorf("Next(%d) = %d, %v, want %d", from, got, ok, want)
		}
	}
	for _, i := range never {
		if got, ok := s.Next(i); got != 3 || !ok {
			t.Errorf("Next(%d) = %d, %v", i, got, ok)
		}
		if got, ok := New(12).Next(i); got != 0 || ok {
			t.Errorf("Next(%d) of none = %d, %v", i, got, ok)
		}
	}
}

// 7.2: of every set of few numbers, from everywhere: a 0 that is one is told with true.
func TestNextAndFreeOfAllSets(t *testing.T) {
	for many := range 10 {
		for which := range 1 << many {
			want := rising(many, func(i int) bool { return which>>i&1 == 1 })
			s := setOf(t, many, want...)
			for from := -1; from <= many+1; from++ {
				n, ok := nextByWords(want, from)
				if got, had := s.Next(from); got != n || had != ok {
					t.Errorf("Next(%d) of %v = %d, %v, want %d, %v", from, want, got, had, n, ok)
				}
			}
			n, ok := freeByWords(want, many)
			if got, had := s.Free(); got != n || had != ok {
				t.Errorf("Free of %v of %d = %d, %v, want %d, %v", want, many, got, had, n, ok)
			}
		}
	}
}

// 7.2: the least that is none; 0 and false, if all numbers up to the limit are in, wherever in its byte it ends.
func TestFree(t *testing.T) {
	for _, c := range limits {
		s := New(c.asked)
		for i := range c.held {
			if got, ok := s.Free(); got != i || !ok {
				t.Errorf("Free of one of %d with %d = %d, %v", c.asked, i, got, ok)
			}
			s.Add(i)
		}
		if got, ok := s.Free(); got != 0 || ok {
			t.Errorf("Free of a full one of %d = %d, %v", c.asked, got, ok)
		}
		for i := c.held - 1; i >= 0; i-- {
			s.Remove(i)
			if got, ok := s.Free(); got != i || !ok {
				t.Errorf("Free of one of %d, %d removed = %d, %v", c.asked, i, got, ok)
			}
		}
	}
}

// 7.2: All tells numbers as long as yield answers true, and yield is asked no more behind that.
func TestAllStops(t *testing.T) {
	want := []int{0, 7, 8, 30}
	s := setOf(t, 31, want...)
	for stop := range 6 {
		var got []int
		s.All()(func(i int) bool {
			got = append(got, i)
			return len(got) <= stop
		})
		if !slices.Equal(got, want[:min(stop+1, 4)]) {
			t.Errorf("stopped behind %d: %v", stop, got)
		}
	}
	checkHas(t, s, want, 31)
}

// 7.2: All can be gone through again, and tells the numbers that there are when it is gone through.
func TestAllAgain(t *testing.T) {
	s := New(9)
	all := s.All()
	for i := range all {
		t.Errorf("%d of none", i)
	}
	s.Add(8)
	s.Add(2)
	for range 2 {
		if got := slices.Collect(all); !slices.Equal(got, []int{2, 8}) {
			t.Errorf("All: %v", got)
		}
	}
}

// P1, 7.2: All ends, and tells the numbers that there were, though numbers are added and removed meanwhile.
func TestAllWhileChanged(t *testing.T) {
	for name, change := range map[string]func(s *Set, i int){
		"added behind":   func(s *Set, i int) { s.Add(i + 1) },
		"added ahead":    func(s *Set, i int) { s.Add(i - 1) },
		"removed":        func(s *Set, i int) { s.Remove(i) },
		"removed behind": func(s *Set, i int) { s.Remove(i + 3) },
		"all at once": func(s *Set, i int) {
			for j := range 20 {
				s.Remove(j)
			}
		},
	} {
		s := setOf(t, 20, 1, 4, 7, 10, 19)
		var got []int
		for i := range s.All() {
			got = append(got, i)
			change(s, i)
		}
		if !slices.Equal(got, []int{1, 4, 7, 10, 19}) {
			t.Errorf("%s: %v", name, got)
		}
	}
}

// P1, 7.2: what is added and removed while All is gone through is in, and out, behind that.
func TestChangedByAll(t *testing.T) {
	s := setOf(t, 20, 1, 4, 19)
	for i := range s.All() {
		s.Remove(i)
		s.Add(i - 1)
	}
	checkHas(t, s, []int{0, 3, 18}, 20)
}

// P1: no yield at all is nobody to tell.
func TestAllNoYield(t *testing.T) {
	s := setOf(t, 3, 1)
	s.All()(nil)
	checkHas(t, s, []int{1}, 3)
	(*Set)(nil).All()(nil)
}

// 7.1, 7.2: of nil 0, false, nothing; and no bytes.
func TestNil(t *testing.T) {
	var s *Set
	for _, i := range append([]int{0, 1, 7, 8, 999}, never...) {
		if s.Add(i) || s.Remove(i) {
			t.Errorf("%d is added to nil, or removed", i)
		}
	}
	checkHas(t, s, nil, 0)
}

// P1: a set that New did not make is one of limit 0.
func TestNotMade(t *testing.T) {
	var s Set
	if s.Add(0) || s.Remove(0) {
		t.Errorf("0 is added, or removed")
	}
	checkHas(t, &s, nil, 0)
}

// 7.1: sets are each for itself.
func TestTwoSets(t *testing.T) {
	a, b := setOf(t, 9, 1), setOf(t, 9, 2, 8)
	checkHas(t, a, []int{1}, 9)
	checkHas(t, b, []int{2, 8}, 9)
	c, _ := Read(9, a.Bytes())
	c.Add(3)
	checkHas(t, a, []int{1}, 9)
	checkHas(t, c, []int{1, 3}, 9)
}

// 7.3: the example of the chapter, and which bit of which byte a number is.
func TestBytes(t *testing.T) {
	for _, c := range []struct {
		many    int
		numbers []int
		want    string
	}{
		{10, []int{0, 9}, "\x01\x02"},
		{0, nil, ""},
		{1, nil, "\x00"},
		{1, []int{0}, "\x01"},
		{8, []int{7}, "\x80"},
		{8, []int{0, 1, 2, 3, 4, 5, 6, 7}, "\xff"},
		{9, []int{7}, "\x80\x00"},
		{9, []int{8}, "\x00\x01"},
		{16, []int{3, 12}, "\x08\x10"},
		{17, []int{1, 6, 16}, "\x42\x00\x01"},
		{1000, []int{999}, strings.Repeat("\x00", 124) + "\x80"},
		{999, []int{998}, strings.Repeat("\x00", 124) + "\x40"},
	} {
		if got := setOf(t, c.many, c.numbers...).Bytes(); got != c.want {
			t.Errorf("Bytes of %v of %d: %q, want %q", c.numbers, c.many, got, c.want)
		}
		checkReads(t, c.many, c.want, c.numbers, c.many)
	}
}

// 7.3: a text that has fewer bytes than a set of that limit is refused, one that has more too, whatever bits it has.
func TestReadLength(t *testing.T) {
	for _, c := range limits {
		width := len(bytesByWords(nil, c.held))
		for _, b := range []string{"\x00", "\x01", "\xff"} {
			for length := range width {
				checkRefuses(t, c.asked, strings.Repeat(b, length), api.ErrShort)
			}
			for _, more := range []int{1, 2, 8, 125, 1000} {
				checkRefuses(t, c.asked, strings.Repeat(b, width+more), api.ErrMore)
			}
		}
		checkReads(t, c.asked, strings.Repeat("\x00", width), nil, c.held)
	}
}

// 7.3: each bit that is no number is refused, alone and beside others; each that is one is read.
func TestReadForm(t *testing.T) {
	for _, c := range limits {
		width := len(bytesByWords(nil, c.held))
		full := bytesByWords(rising(c.held, func(int) bool { return true }), c.held)
		for i := max(8*width-24, 0); i < 8*width; i++ {
			one := []byte(strings.Repeat("\x00", width))
			one[i/8] = 1 << (i % 8)
			if i < c.held {
				checkReads(t, c.asked, string(one), []int{i}, c.held)
				continue
			}
			checkRefuses(t, c.asked, string(one), api.ErrForm)
			more := []byte(full)
			more[i/8] |= 1 << (i % 8)
			checkRefuses(t, c.asked, string(more), api.ErrForm)
		}
		checkReads(t, c.asked, full, rising(c.held, func(int) bool { return true }), c.held)
	}
}

// 7.3: of every byte, as the last one of a set whose limit ends anywhere in it.
func TestReadEveryByte(t *testing.T) {
	for many := 1; many <= 8; many++ {
		for b := range 256 {
			for _, ahead := range []string{"", "\x00", "\xa5"} {
				text, limit := ahead+string([]byte{byte(b)}), 8*len(ahead)+many
				if b>>many != 0 {
					checkRefuses(t, limit, text, api.ErrForm)
					continue
				}
				s, e := Read(limit, text)
				if e != api.OK || s.Bytes() != text || s.Many() != limit {
					t.Errorf("Read(%d, %q): error %d", limit, text, e)
				}
			}
		}
	}
}

// 7.3: a set that was read goes on as any other one.
func TestReadGoesOn(t *testing.T) {
	s, e := Read(10, "\x01\x02")
	if e != api.OK {
		t.Fatalf("error %d", e)
	}
	if s.Add(0) || !s.Add(5) || s.Add(10) || !s.Remove(9) {
		t.Errorf("a set that was read: %v", told(s))
	}
	checkHas(t, s, []int{0, 5}, 10)
}

// 7.4: Read of Bytes is the set, of each limit and of numbers of all kinds.
func TestReadOfBytes(t *testing.T) {
	for _, c := range limits {
		for _, is := range []func(i int) bool{
			func(int) bool { return false },
			func(int) bool { return true },
			func(i int) bool { return i%2 == 0 },
			func(i int) bool { return i%3 == 1 },
			func(i int) bool { return i%8 == 7 },
			func(i int) bool { return i == c.held-1 },
			func(i int) bool { return i*i%11 < 5 },
		} {
			want := rising(c.held, is)
			s := setOf(t, c.asked, want...)
			checkReads(t, c.asked, s.Bytes(), want, c.held)
			checkReads(t, c.held, s.Bytes(), want, c.held)
			checkHas(t, s, want, c.held)
		}
	}
}

// 7.4: Read of Bytes is the set also where numbers were removed.
func TestReadOfBytesBehindRemove(t *testing.T) {
	s := setOf(t, 13, 0, 5, 12)
	s.Remove(12)
	s.Remove(5)
	checkReads(t, 13, s.Bytes(), []int{0}, 13)
	s.Remove(0)
	checkReads(t, 13, s.Bytes(), nil, 13)
}

// P1, and all promises, by any steps: of each two bytes the first says what is done, and both the number it is done with.
func FuzzMarks(f *testing.F) {
	f.Add(0, "\x00\x00\x01\x00")
	f.Add(10, "\x00\x00\x00\x09\x00\x0a\x01\x09\x01\x09")
	f.Add(1000, "\x06\xe7\x06\xe8\x07\xe7\x00\x00")
	f.Add(-1, "\x00\x00\xff\xff")
	f.Add(math.MaxInt, "\x06\xe7\x80\x00\x7f\xff\x01\x02")
	f.Add(math.MinInt, "\x00\x00")
	f.Fuzz(func(t *testing.T, many int, steps string) {
		held := min(max(many, 0), 1000)
		s, in := New(many), map[int]int{}
		for at := 0; at+1 < min(len(steps), 800); at += 2 {
			i := int(int8(steps[at]))>>1<<8 + int(steps[at+1])
			_, had := in[i]
			if steps[at]&1 == 0 {
				may := i >= 0 && i < held && !had
				if may {
					in[i] = 1
				}
				if got := s.Add(i); got != may {
					t.Errorf("Add(%d) = %v", i, got)
				}
				continue
			}
			delete(in, i)
			if got := s.Remove(i); got != had {
				t.Errorf("Remove(%d) = %v", i, got)
			}
		}
		want := rising(held, func(i int) bool { return in[i] == 1 })
		checkHas(t, s, want, held)
		checkReads(t, many, s.Bytes(), want, held)
		if x, e := Read(many, steps); e == api.OK && x.Bytes() != steps || (e == api.OK) != (x != nil) {
			t.Errorf("Read(%d, %q): error %d", many, steps, e)
		}
	})
}
