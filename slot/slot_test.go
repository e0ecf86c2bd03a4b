package slot

import (
	"math"
	"math/rand"
	"slices"
	"strings"
	"testing"

	"solder/api"
)

// Versions whose first sector is known, up to its noughts.
var known = []struct {
	p     api.Pair
	bytes string
}{
	{made(5, vec(2, 0), vec(1, 1), letterAs, letterBs), "Q\x05\x00\x00\x00\x00\x00\x00\x02\x00\x00\x00\x00\x00\x00\x00\x00\x00\x00\x00\x00\x00\x01\x00\x00\x00\x00\x00\x00\x01\xf2\x23\xe6\x73\xc5\xed\x66\x5f"},
	{made(0, vec(1, 0), vec(0, 1), noughts, noughts), "Q\x00\x00\x00\x00\x00\x00\x00\x01\x00\x00\x00\x00\x00\x00\x00\x00\x00\x00\x00\x00\x00\x00\x00\x00\x00\x00\x00\x00\x01\x58\x85\x96\x0d\x13\x62\x0d\xbc"},
	{made(23, vec(1<<50, 0), vec(0, 1<<50), ones, noughts), "Q\x17\x04\x00\x00\x00\x00\x00\x00\x00\x00\x00\x00\x00\x00\x00\x00\x00\x00\x00\x00\x00\x00\x04\x00\x00\x00\x00\x00\x00\xf0\x06\x2d\x59\x5a\x03\xae\xfe"},
	{made(7, vec(1<<50, 1<<50-1), vec(1<<50-1, 1<<50), rising, falling), "Q\x07\x04\x00\x00\x00\x00\x00\x00\x03\xff\xff\xff\xff\xff\xff\x03\xff\xff\xff\xff\xff\xff\x04\x00\x00\x00\x00\x00\x00\x68\xdf\xac\xec\xe7\x00\x04\x83"},
	{made(17, usual.A.V, usual.B.V, rising, rising), "Q\x11\x02\x02\x03\x04\x05\x06\x07\x01\x09\x0a\x0b\x0c\x0d\x0e\x01\x10\x11\x12\x13\x14\x15\x03\x17\x18\x19\x20\x21\x22\xb9\x71\x29\x4b\x26\xea\x46\x44"},
}

// 21.1: what may be, at each edge, and each extent that there may be.
func TestCheck(t *testing.T) {
	for _, p := range allRight() {
		checkCheck(t, p, api.OK)
	}
	for extent := range 24 {
		checkCheck(t, made(extent, vec(3, 1), vec(2, 2), letterAs, letterAs), api.OK)
	}
}

// 21.1: each extent near those that may be, and numbers far from them.
func TestCheckExtent(t *testing.T) {
	for extent := -300; extent <= 300; extent++ {
		want := api.ErrRange
		if extent >= 0 && extent < api.MaxExtents {
			want = api.OK
		}
		checkCheck(t, made(extent, vec(3, 1), vec(2, 2), letterAs, letterBs), want)
	}
	for _, extent := range wrongExtents {
		checkCheck(t, made(extent, vec(3, 1), vec(2, 2), letterAs, letterBs), api.ErrRange)
	}
}

// 21.1: a vector that may not be, whichever of its numbers it is, of either side.
func TestCheckVector(t *testing.T) {
	for _, v := range beside {
		for _, n := range wrongValues {
			for at := range 4 {
				p := made(5, v[0], v[1], letterAs, letterBs)
				*[]*int{&p.A.V.A, &p.A.V.B, &p.B.V.A, &p.B.V.B}[at] = n
				checkCheck(t, p, api.ErrRange)
			}
		}
	}
}

// 21.1: each number of bytes near that of an extent, of either side and of both.
func TestCheckSize(t *testing.T) {
	sizes := []int{0, 1, 2, 63, 64, 65, 126, 127, 128, 129, 130, 191, 192, 255, 256, 257, 320, 384, 100000}
	for _, a := range sizes {
		for _, b := range sizes {
			want := api.ErrSize
			if a == 128 && b == 128 {
				want = api.OK
			}
			checkCheck(t, made(5, vec(3, 1), vec(2, 2), strings.Repeat("a", a), strings.Repeat("b", b)), want)
		}
	}
}

// 21.1: two vectors that are the same, ahead, behind, or beside one another with A's being further on side B.
func TestCheckState(t *testing.T) {
	for _, v := range notBeside {
		checkCheck(t, made(5, v[0], v[1], letterAs, letterBs), api.ErrState)
	}
	for _, v := range beside {
		checkCheck(t, made(5, v[1], v[0], letterAs, letterBs), api.ErrState)
	}
	for n := range 256 {
		a, b := vec(n&3, n>>2&3), vec(n>>4&3, n>>6)
		want := api.ErrState
		if a.A > b.A && a.B < b.B {
			want = api.OK
		}
		checkCheck(t, made(5, a, b, letterAs, letterBs), want)
	}
}

// 21.1: of several errors the one that the chapter names first, whichever they are.
func TestCheckSeveral(t *testing.T) {
	for faults := range 1 << 8 {
		p := made(5, vec(3, 1), vec(2, 2), letterAs, letterBs)
		for i, spoil := range []func(){
			func() { p.A.V, p.B.V = p.B.V, p.A.V },
			func() { p.A.Data = p.A.Data[1:] },
			func() { p.B.Data += "b" },
			func() { p.A.V.A = -1 },
			func() { p.A.V.B = 1<<50 + 1 },
			func() { p.B.V.A = math.MaxInt },
			func() { p.B.V.B = math.MinInt },
			func() { p.Extent = 24 },
		} {
			if faults>>i&1 == 1 {
				spoil()
			}
		}
		want := api.OK
		switch {
		case faults >= 8:
			want = api.ErrRange
		case faults >= 2:
			want = api.ErrSize
		case faults == 1:
			want = api.ErrState
		}
		checkCheck(t, p, want)
		if want != api.OK {
			checkPut(t, p, "", want)
		}
	}
}

// 21.2: first sectors that are known.
func TestKnown(t *testing.T) {
	for _, k := range known {
		whole := padded(k.bytes) + k.p.A.Data + k.p.B.Data
		checkPut(t, k.p, whole, api.OK)
		checkGet(t, whole, k.p, true, api.OK)
	}
}

// 21.2: the chapter's example.
func TestExample(t *testing.T) {
	s, e := Put(made(5, vec(2, 0), vec(1, 1), letterAs, letterBs))
	if e != api.OK || len(s) != 5*64 || s[:2] != "Q\x05" || s[64:] != letterAs+letterBs {
		t.Errorf("%q, error %d", s, e)
	}
}

// 21.2: the mark, all numbers in their order, both tails, noughts, and both sides' bytes, at each edge.
func TestPut(t *testing.T) {
	for _, p := range allRight() {
		checkPut(t, p, sectorsOf(p), api.OK)
	}
	for extent := range 24 {
		p := usual
		p.Extent = extent
		checkPut(t, p, sectorsOf(p), api.OK)
	}
}

// 21.2: of what may not be there are no sectors.
func TestPutWrong(t *testing.T) {
	for _, extent := range wrongExtents {
		p := usual
		p.Extent = extent
		checkPut(t, p, "", api.ErrRange)
	}
	for _, n := range wrongValues {
		checkPut(t, made(5, vec(n, 0), vec(0, 1), letterAs, letterBs), "", api.ErrRange)
		checkPut(t, made(5, vec(1, n), vec(0, 1), letterAs, letterBs), "", api.ErrRange)
		checkPut(t, made(5, vec(1, 0), vec(n, 1), letterAs, letterBs), "", api.ErrRange)
		checkPut(t, made(5, vec(1, 0), vec(0, n), letterAs, letterBs), "", api.ErrRange)
	}
	for _, v := range notBeside {
		checkPut(t, made(5, v[0], v[1], letterAs, letterBs), "", api.ErrState)
	}
	checkPut(t, made(5, vec(1, 0), vec(0, 1), letterAs+"a", letterBs[1:]), "", api.ErrSize)
	checkPut(t, made(5, vec(1, 0), vec(0, 1), "", letterAs+letterBs), "", api.ErrSize)
	checkPut(t, api.Pair{}, "", api.ErrSize)
}

// 21.2: bytes that are not just five sectors, be they right ones, noughts, or begin with another byte.
func TestGetSize(t *testing.T) {
	whole := sectorsOf(usual)
	for n := range 5 * 64 {
		checkNone(t, whole[:n], api.ErrSize)
		checkNone(t, strings.Repeat("\x00", n), api.ErrSize)
		checkNone(t, strings.Repeat("x", n), api.ErrSize)
		checkNone(t, changed(whole, 34, whole[34]^1)[:n], api.ErrSize)
	}
	for _, behind := range []string{"\x00", "Q", padded(""), letterAs, whole, strings.Repeat("\xff", 1000)} {
		checkNone(t, whole+behind, api.ErrSize)
		checkNone(t, changed(whole, 0, 'S')+behind, api.ErrSize)
		checkNone(t, changed(whole, 34, whole[34]^1)+behind, api.ErrSize)
		checkNone(t, strings.Repeat("\x00", 5*64)+behind, api.ErrSize)
	}
}

// 21.2: a first sector of noughts has nothing, whatever stands behind it.
func TestGetFree(t *testing.T) {
	for _, data := range []string{noughts + noughts, ones + ones, rising + falling, sectorsOf(usual)[64:], sectorsOf(usual)[:256]} {
		checkNone(t, padded("")+data, api.OK)
	}
	for _, data := range []string{noughts + noughts, rising + falling} {
		for at := range 64 {
			for b := 1; b < 256; b++ {
				want := api.ErrForm
				if at == 0 && b == 'Q' {
					want = api.ErrSum
				}
				checkNone(t, changed(padded(""), at, byte(b))+data, want)
			}
		}
	}
}

// 21.2: a first byte that is another one, whether the tail is that of the bytes or not, and whatever else is wrong.
func TestGetMark(t *testing.T) {
	for _, k := range known {
		whole := sectorsOf(k.p)
		for first := range 256 {
			if first == 'Q' {
				continue
			}
			other := changed(whole, 0, byte(first))
			checkNone(t, other, api.ErrForm)
			checkNone(t, padded(withTail(other[:34]))+other[64:], api.ErrForm)
			checkNone(t, changed(other, 63, 1), api.ErrForm)
			checkNone(t, changed(other, 1, 24), api.ErrForm)
			checkNone(t, changed(other, 319, other[319]^1), api.ErrForm)
		}
	}
	for _, b := range []string{"\xff", "q", "E", "R"} {
		checkNone(t, strings.Repeat(b, 5*64), api.ErrForm)
	}
}

// 21.2: any byte of the first sector up to its tail that is another one, also where the versions may not be, a byte behind is not 0, or the bytes of a side are others.
func TestGetSum(t *testing.T) {
	wrong := made(255, vec(1<<56-1, 1<<50+1), vec(1<<50+1, 3), letterAs, letterBs)
	for _, p := range []api.Pair{known[0].p, known[1].p, usual, wrong} {
		whole := sectorsOf(p)
		for at := 1; at < 38; at++ {
			for mask := 1; mask < 256; mask++ {
				other := changed(whole, at, whole[at]^byte(mask))
				checkNone(t, other, api.ErrSum)
				checkNone(t, changed(other, 38, 1), api.ErrSum)
				checkNone(t, changed(other, 64, other[64]^1), api.ErrSum)
			}
		}
	}
	checkNone(t, strings.Repeat("Q", 5*64), api.ErrSum)
	checkNone(t, padded("Q")+noughts+noughts, api.ErrSum)
}

// 21.2: the tail is of all that is ahead of it in the first sector: the mark, and the bytes' tail too, and no more; its lowest byte is ahead.
func TestGetSumOfAll(t *testing.T) {
	for _, k := range known {
		ahead, data := k.bytes[:34], k.p.A.Data+k.p.B.Data
		turnedRound := string([]byte{k.bytes[37], k.bytes[36], k.bytes[35], k.bytes[34]})
		for _, tail := range []string{tailOf(ahead[1:]), tailOf(ahead[:30]), tailOf(padded(ahead)), tailOf(ahead + data), turnedRound} {
			checkNone(t, padded(ahead+tail)+data, api.ErrSum)
		}
	}
}

// 21.2: any byte of either side that is another one, also where the versions may not be, or a byte of the first sector behind its tail is not 0.
func TestGetData(t *testing.T) {
	wrong := made(24, vec(0, 1), vec(1, 0), letterAs, letterBs)
	for _, p := range []api.Pair{known[0].p, known[1].p, usual, wrong} {
		whole := sectorsOf(p)
		for at := 64; at < 320; at++ {
			for _, mask := range []int{1, 2, 4, 8, 16, 32, 64, 128, 255} {
				other := changed(whole, at, whole[at]^byte(mask))
				checkNone(t, other, api.ErrSum)
				checkNone(t, changed(other, 38+at%26, 1), api.ErrSum)
			}
		}
	}
	whole := sectorsOf(usual)
	for at := 64; at < 320; at += 64 {
		checkNone(t, whole[:at]+padded("")+whole[at+64:], api.ErrSum)
	}
}

// 21.2: the bytes' tail is of both sides' bytes, A's ahead; its lowest byte is ahead. Whatever else it is, and though the first sector's tail is right.
func TestGetDataTail(t *testing.T) {
	for _, k := range known {
		a, b, right := k.p.A.Data, k.p.B.Data, k.bytes[30:34]
		turnedRound := string([]byte{right[3], right[2], right[1], right[0]})
		some := []string{tailOf(a), tailOf(b), tailOf(a + b + a), tailOf(k.bytes[:30] + a + b), tailOf(tailOf(a) + tailOf(b)), tailOf(""), turnedRound, "\x00\x00\x00\x00"}
		if a != b {
			some = append(some, tailOf(b+a))
		}
		for _, tail := range some {
			checkNone(t, padded(withTail(k.bytes[:30]+tail))+a+b, api.ErrSum)
		}
		for at := range 4 {
			for mask := 1; mask < 256; mask++ {
				tail := changed(right, at, right[at]^byte(mask))
				checkNone(t, padded(withTail(k.bytes[:30]+tail))+a+b, api.ErrSum)
			}
		}
	}
}

// 21.2: versions that may not be, though both tails are right: each value that each byte may have, and numbers just above those that may be.
func TestGetWrong(t *testing.T) {
	for _, k := range known {
		data := k.p.A.Data + k.p.B.Data
		for at := 1; at < 30; at++ {
			for b := range 256 {
				other := padded(withTail(changed(k.bytes[:34], at, byte(b)))) + data
				want, is, e := getByWords(other)
				checkGet(t, other, want, is, e)
			}
		}
	}
	for extent := 24; extent < 256; extent++ {
		p := usual
		p.Extent = extent
		checkNone(t, sectorsOf(p), api.ErrForm)
	}
	for _, n := range []int{1<<50 + 1, 1 << 51, 1<<56 - 1} {
		checkNone(t, sectorsOf(made(5, vec(n, 0), vec(0, 1), letterAs, letterBs)), api.ErrForm)
		checkNone(t, sectorsOf(made(5, vec(1, n), vec(0, 1<<50), letterAs, letterBs)), api.ErrForm)
		checkNone(t, sectorsOf(made(5, vec(1<<50, 0), vec(n, 1), letterAs, letterBs)), api.ErrForm)
		checkNone(t, sectorsOf(made(5, vec(1, 0), vec(0, n), letterAs, letterBs)), api.ErrForm)
	}
	for _, v := range notBeside {
		checkNone(t, sectorsOf(made(5, v[0], v[1], letterAs, letterBs)), api.ErrForm)
	}
}

// 21.2: a byte of the first sector behind its tail that is not 0, wherever, and whatever it is.
func TestGetBehind(t *testing.T) {
	for _, k := range known {
		whole := sectorsOf(k.p)
		for at := 38; at < 64; at++ {
			for b := 1; b < 256; b++ {
				checkNone(t, changed(whole, at, byte(b)), api.ErrForm)
			}
		}
		checkNone(t, whole[:38]+strings.Repeat(" ", 26)+whole[64:], api.ErrForm)
	}
}

// 21.3: what was put is got, and no two have the same sectors.
func TestGetOfPut(t *testing.T) {
	seen := map[string]api.Pair{}
	for _, p := range append(allRight(), usual) {
		s, e := Put(p)
		if e != api.OK {
			t.Fatalf("Put(%v): error %d", p, e)
		}
		checkGet(t, s, p, true, api.OK)
		if was, ok := seen[s]; ok && was != p {
			t.Errorf("%v and %v have the same sectors", was, p)
		}
		seen[s] = p
	}
}

// anyPair is versions of any numbers near those that may be, and any bytes.
func anyPair(some *rand.Rand) api.Pair {
	number := func() int {
		n := some.Intn(1<<50 + 1)
		return []int{n, n & 3, n & 0xffff, 1<<50 - n&3}[some.Intn(4)]
	}
	data := func() string {
		l := make([]byte, 128)
		some.Read(l)
		return string(l)
	}
	p := made(some.Intn(24), vec(number(), number()), vec(number(), number()), data(), data())
	if some.Intn(3) > 0 {
		p.A.V, p.B.V = vec(max(p.A.V.A, p.B.V.A), min(p.A.V.B, p.B.V.B)), vec(min(p.A.V.A, p.B.V.A), max(p.A.V.B, p.B.V.B))
	}
	return p
}

// spoiled is versions with one thing that is another one, wrong or not.
func spoiled(some *rand.Rand, p api.Pair) api.Pair {
	numbers := []*int{&p.Extent, &p.A.V.A, &p.A.V.B, &p.B.V.A, &p.B.V.B}
	switch at := some.Intn(7); at {
	case 5:
		p.A.Data = p.A.Data[some.Intn(3):]
	case 6:
		p.B.Data += "bb"[:some.Intn(3)]
	default:
		*numbers[at] = slices.Concat(wrongExtents, wrongValues)[some.Intn(len(wrongExtents)+len(wrongValues))]
	}
	return p
}

// All promises, at any versions, and at their sectors of which some bytes are others, with the tails made anew or not.
func TestAnything(t *testing.T) {
	some := rand.New(rand.NewSource(21))
	for range 10000 {
		p := anyPair(some)
		for _, p := range []api.Pair{p, spoiled(some, p), spoiled(some, spoiled(some, p))} {
			checkCheck(t, p, checkByWords(p))
			want, e := putByWords(p)
			checkPut(t, p, want, e)
		}
		s := sectorsOf(p)
		for range 3 {
			want, is, e := getByWords(s)
			checkGet(t, s, want, is, e)
			made := padded(withTail(s[:30]+tailOf(s[64:]))) + s[64:]
			want, is, e = getByWords(made)
			checkGet(t, made, want, is, e)
			s = changed(s, some.Intn(len(s)), byte(some.Intn(256)))
		}
	}
}

// P1, and all promises, at any numbers and bytes.
func FuzzSlots(f *testing.F) {
	for _, k := range known {
		p := k.p
		f.Add(p.Extent, p.A.V.A, p.A.V.B, p.B.V.A, p.B.V.B, p.A.Data, p.B.Data, padded(k.bytes))
		f.Add(p.Extent+1, p.A.V.A, p.A.V.B, p.B.V.A, p.B.V.B-1, p.A.Data, p.B.Data+"x", k.bytes[1:30])
	}
	f.Add(math.MinInt, math.MaxInt, math.MinInt, math.MaxInt, math.MinInt, "", "", "")
	f.Fuzz(func(t *testing.T, extent, aa, ab, ba, bb int, dataA, dataB, s string) {
		p := made(extent, vec(aa, ab), vec(ba, bb), dataA, dataB)
		checkCheck(t, p, checkByWords(p))
		sectors, e := putByWords(p)
		checkPut(t, p, sectors, e)
		if e == api.OK {
			checkGet(t, sectors, p, true, api.OK)
		}
		all := []string{s, s + dataA + dataB}
		if data := dataA + dataB; len(s) <= 29 && len(data) <= 256 {
			data += strings.Repeat("\x00", 256-len(data))
			head := "Q" + s + strings.Repeat("\x00", 29-len(s))
			all = append(all, padded(withTail(head+tailOf(data)))+data)
		}
		for _, s := range all {
			want, is, e := getByWords(s)
			checkGet(t, s, want, is, e)
		}
	})
}
