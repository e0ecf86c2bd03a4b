package logrec

import (
	"hash/crc32"
	"math"
	"math/rand"
	"slices"
	"strings"
	"testing"

	"solder/api"
)

// top is the greatest seq, as a number of 6 bytes.
const top = 1<<48 - 1

// Numbers that seq may be.
var numbers = []int{0, 1, 2, 77, 255, 256, 1 << 16, 1<<24 + 1, 1<<32 - 1, 1 << 32, 1 << 40, 1<<48 - 2, top}

// Numbers that seq may not be, also those of which six bytes would be a right one.
var noNumbers = []int{-1, -2, -77, -top, -1 << 48, 1 << 48, 1<<48 + 1, 1<<48 + 77, 1 << 50, 1 << 56, math.MaxInt, math.MinInt, math.MinInt + 1}

// Places that At may not be, also those of which two bytes would be a right one.
var noPlaces = []int{-1, -2, -1000, 1000, 1001, 1024, 65535, 65536, 65536 + 3, 1 << 32, math.MaxInt, math.MinInt, math.MinInt + 1}

// full is a sector whose bytes are all the same one.
func full(at int, b byte) api.Sector {
	return api.Sector{At: at, Data: strings.Repeat(string([]byte{b}), 64)}
}

// many is a transaction of so many sectors; at 17 and more it is none.
func many(n int) []api.Sector {
	var l []api.Sector
	for i := range n {
		l = append(l, full((i*61+7)%1000, byte('a'+i)))
	}
	return l
}

// Records that are known, each by the bytes that noughts follow in its first sector.
var known = []struct {
	seq   int
	l     []api.Sector
	bytes string
}{
	{0, []api.Sector{full(0, 0)}, "R\x00\x00\x00\x00\x00\x00\x01\x00\x00\xdb\xdb\x75\x72"},
	{77, []api.Sector{full(5, 'a')}, "R\x00\x00\x00\x00\x00\x4d\x01\x00\x05\x6a\x84\x78\xf6"},
	{top, []api.Sector{full(999, 255)}, "R\xff\xff\xff\xff\xff\xff\x01\x03\xe7\x0e\x0b\x81\x41"},
	{0x010203040506, []api.Sector{full(258, 'a'), full(3, 'b')}, "R\x01\x02\x03\x04\x05\x06\x02\x01\x02\x00\x03\x66\x55\xed\x2a"},
	{9, []api.Sector{full(3, 'b'), full(258, 'a')}, "R\x00\x00\x00\x00\x00\x09\x02\x00\x03\x01\x02\x29\xfb\x7c\x3d"},
	{1 << 40, knownMost(), "R\x01\x00\x00\x00\x00\x00\x10\x00\x00\x00\x03\x00\x06\x00\x09\x00\x0c\x00\x0f\x00\x12\x00\x15\x00\x18\x00\x1b\x00\x1e\x00\x21\x00\x24\x00\x27\x00\x2a\x00\x2d\x9a\x93\x45\x89"},
}

// knownMost is the known transaction of as many sectors as there may be.
func knownMost() []api.Sector {
	var l []api.Sector
	for i := range 16 {
		l = append(l, full(3*i, byte('a'+i)))
	}
	return l
}

// bytesOf is a number as so many bytes, the highest ahead.
func bytesOf(n, size int) string {
	b := make([]byte, size)
	for i := range b {
		b[size-1-i] = byte(n >> (8 * i))
	}
	return string(b)
}

// numberOf is the number that bytes are, the highest ahead.
func numberOf(s string) int {
	n := 0
	for _, b := range []byte(s) {
		n = n*256 + int(b)
	}
	return n
}

// padded is bytes and noughts, 64 together.
func padded(s string) string { return s + strings.Repeat("\x00", 64-len(s)) }

// tailOf is bytes' tail, by the library's sum and not by the program's.
func tailOf(s string) string {
	sum := crc32.ChecksumIEEE([]byte(s))
	return string([]byte{byte(sum), byte(sum >> 8), byte(sum >> 16), byte(sum >> 24)})
}

// dataOf is all Data, one behind the other.
func dataOf(l []api.Sector) string {
	s := ""
	for _, x := range l {
		s += x.Data
	}
	return s
}

// headOf is what a record's first sector has ahead of its tail, by the document's words.
func headOf(seq int, l []api.Sector) string {
	s := "R" + bytesOf(seq, 6) + bytesOf(len(l), 1)
	for _, x := range l {
		s += bytesOf(x.At, 2)
	}
	return s
}

// recordOf is a record by the document's words; also one of a transaction that may not be, of 16 sectors at most.
func recordOf(seq int, l []api.Sector) string { return recordWith(headOf(seq, l), dataOf(l)) }

// recordWith is a record with such bytes ahead of its tail, and such ones behind its first sector; its tail is right.
func recordWith(head, data string) string { return padded(head+tailOf(head+data)) + data }

// mayBeByWords says by the document's words what is wrong with a transaction.
func mayBeByWords(l []api.Sector) api.Errno {
	if len(l) == 0 {
		return api.ErrNone
	}
	if len(l) >= 17 {
		return api.ErrFull
	}
	seen := map[int]bool{}
	for _, x := range l {
		if x.At <= -1 || x.At >= 1000 {
			return api.ErrRange
		}
		if len(x.Data) != 64 {
			return api.ErrSize
		}
		if seen[x.At] {
			return api.ErrTwice
		}
		seen[x.At] = true
	}
	return api.OK
}

// putByWords is what Put comes to by the document's words.
func putByWords(seq int, l []api.Sector) (string, api.Errno) {
	if seq < 0 || seq > top {
		return "", api.ErrRange
	}
	if e := mayBeByWords(l); e != api.OK {
		return "", e
	}
	return recordOf(seq, l), api.OK
}

// sizeByWords is what Size comes to by the document's words.
func sizeByWords(s string, seq int) (int, api.Errno) {
	if len(s) != 64 {
		return 0, api.ErrSize
	}
	if s[0] != 'R' || numberOf(s[1:7]) != seq || s[7] < 1 || s[7] > 16 {
		return 0, api.ErrNone
	}
	return int(s[7]) + 1, api.OK
}

// getByWords is what Get comes to by the document's words.
func getByWords(s string) (int, []api.Sector, api.Errno) {
	if len(s) < 64 || len(s)%64 != 0 {
		return 0, nil, api.ErrSize
	}
	n := int(s[7])
	if s[0] != 'R' || n != len(s)/64-1 || n < 1 || n > 16 {
		return 0, nil, api.ErrForm
	}
	tail := 8 + 2*n
	if tailOf(s[:tail]+s[64:]) != s[tail:tail+4] {
		return 0, nil, api.ErrSum
	}
	var l []api.Sector
	for i := range n {
		l = append(l, api.Sector{At: numberOf(s[8+2*i : 10+2*i]), Data: s[64+64*i : 128+64*i]})
	}
	if mayBeByWords(l) != api.OK || strings.Trim(s[tail+4:64], "\x00") != "" {
		return 0, nil, api.ErrForm
	}
	return numberOf(s[1:7]), l, api.OK
}

// changed is bytes, with another one at a place.
func changed(s string, at int, b byte) string {
	l := []byte(s)
	l[at] = b
	return string(l)
}

// with is a list with another member at a place; the list stays as it is.
func with(l []api.Sector, i int, x api.Sector) []api.Sector {
	l = slices.Clone(l)
	l[i] = x
	return l
}

// checkCheck holds Check against what is to come.
func checkCheck(t *testing.T, l []api.Sector, want api.Errno) {
	t.Helper()
	if got := Check(l); got != want {
		t.Errorf("Check(%.300v) = %d, want %d", l, got, want)
	}
}

// checkPut holds Put against what is to come.
func checkPut(t *testing.T, seq int, l []api.Sector, want string, e api.Errno) {
	t.Helper()
	if got, gotE := Put(seq, l); got != want || gotE != e {
		t.Errorf("Put(%d, %.300v) = %.128q, %d, want %.128q, %d", seq, l, got, gotE, want, e)
	}
}

// checkSize holds Size against what is to come.
func checkSize(t *testing.T, s string, seq, want int, e api.Errno) {
	t.Helper()
	if got, gotE := Size(s, seq); got != want || gotE != e {
		t.Errorf("Size(%.64q, %d) = %d, %d, want %d, %d", s, seq, got, gotE, want, e)
	}
}

// checkGet holds Get against what is to come.
func checkGet(t *testing.T, s string, seq int, l []api.Sector, e api.Errno) {
	t.Helper()
	gotSeq, got, gotE := Get(s)
	if gotSeq != seq || !slices.Equal(got, l) || gotE != e {
		t.Errorf("Get(%.128q) = %d, %.300v, %d, want %d, %.300v, %d", s, gotSeq, got, gotE, seq, l, e)
	}
}

// checkWrong holds Get against an error, beside which there is nothing.
func checkWrong(t *testing.T, s string, e api.Errno) {
	t.Helper()
	checkGet(t, s, 0, nil, e)
}

// 11.1: a transaction of no sectors is none, and one of more than 16 is too many; those between are right.
func TestCheckMany(t *testing.T) {
	checkCheck(t, nil, api.ErrNone)
	checkCheck(t, []api.Sector{}, api.ErrNone)
	for n := 1; n <= 16; n++ {
		checkCheck(t, many(n), api.OK)
	}
	for _, n := range []int{17, 18, 32, 100, 1000, 5000} {
		checkCheck(t, many(n), api.ErrFull)
		checkCheck(t, make([]api.Sector, n), api.ErrFull)
	}
}

// 11.1: each place from 0 to 999 may be, and no other one, wherever it stands.
func TestCheckPlace(t *testing.T) {
	for at := range 1000 {
		checkCheck(t, []api.Sector{full(at, 'x')}, api.OK)
		checkCheck(t, []api.Sector{full((at+1)%1000, 'x'), full(at, 'x')}, api.OK)
	}
	for _, at := range noPlaces {
		for n := 1; n <= 16; n++ {
			for i := range n {
				checkCheck(t, with(many(n), i, full(at, 'x')), api.ErrRange)
			}
		}
	}
}

// 11.1: Data has 64 bytes, no fewer and no more, wherever it stands.
func TestCheckSize(t *testing.T) {
	for size := range 200 {
		want := api.ErrSize
		if size == 64 {
			want = api.OK
		}
		data := strings.Repeat("x", size)
		for i := range 16 {
			checkCheck(t, with(many(16), i, api.Sector{At: 999, Data: data}), want)
		}
		checkCheck(t, []api.Sector{{At: 0, Data: data}}, want)
	}
}

// 11.1: no place is there twice, whichever two have it, also where their bytes are alike.
func TestCheckTwice(t *testing.T) {
	for n := 2; n <= 16; n++ {
		for i := range n {
			for k := range i {
				l := many(n)
				checkCheck(t, with(l, i, full(l[k].At, 'x')), api.ErrTwice)
				checkCheck(t, with(l, i, l[k]), api.ErrTwice)
			}
		}
	}
	for _, at := range []int{0, 1, 999} {
		checkCheck(t, []api.Sector{full(at, 'x'), full(at, 'y')}, api.ErrTwice)
	}
	checkCheck(t, []api.Sector{full(1, 'x'), full(2, 'x'), full(3, 'x')}, api.OK)
}

// 11.1: of several errors that of the first sector counts; of one sector the place is ahead of its bytes, and these of the sector ahead that has its place.
func TestCheckOrder(t *testing.T) {
	short := func(at int) api.Sector { return api.Sector{At: at, Data: "x"} }
	for _, c := range []struct {
		l    []api.Sector
		want api.Errno
	}{
		{[]api.Sector{short(-1)}, api.ErrRange},
		{[]api.Sector{short(1000)}, api.ErrRange},
		{[]api.Sector{short(1), full(1000, 'x')}, api.ErrSize},
		{[]api.Sector{full(1000, 'x'), short(1)}, api.ErrRange},
		{[]api.Sector{full(1, 'x'), short(1)}, api.ErrSize},
		{[]api.Sector{short(1), full(1, 'x')}, api.ErrSize},
		{[]api.Sector{short(1), short(1)}, api.ErrSize},
		{[]api.Sector{full(-1, 'x'), full(-1, 'x')}, api.ErrRange},
		{[]api.Sector{full(1, 'x'), full(1, 'y'), full(-1, 'x')}, api.ErrTwice},
		{[]api.Sector{full(1, 'x'), full(-1, 'y'), full(1, 'x')}, api.ErrRange},
		{[]api.Sector{full(1, 'x'), full(1, 'y'), short(2)}, api.ErrTwice},
		{[]api.Sector{full(1, 'x'), short(2), full(1, 'y')}, api.ErrSize},
	} {
		checkCheck(t, c.l, c.want)
		checkPut(t, 5, c.l, "", c.want)
		checkCheck(t, append(c.l, many(16)...), api.ErrFull)
	}
}

// 11.2: records that are known.
func TestKnown(t *testing.T) {
	for _, k := range known {
		record := padded(k.bytes) + dataOf(k.l)
		checkPut(t, k.seq, k.l, record, api.OK)
		checkSize(t, record[:64], k.seq, 1+len(k.l), api.OK)
		checkGet(t, record, k.seq, k.l, api.OK)
	}
}

// 11.2: the mark, the numbers, the tail and noughts, and each sector's bytes, at each edge; the sectors stand as they were told.
func TestPut(t *testing.T) {
	for _, seq := range numbers {
		for n := 1; n <= 16; n++ {
			l := many(n)
			checkPut(t, seq, l, recordOf(seq, l), api.OK)
			slices.Reverse(l)
			checkPut(t, seq, l, recordOf(seq, l), api.OK)
		}
	}
	for at := range 1000 {
		l := []api.Sector{full(at, byte(at)), full(999-at, 'x')}
		checkPut(t, at, l, recordOf(at, l), api.OK)
	}
}

// 11.2: a seq that may not be, also ahead of whatever is wrong with the transaction.
func TestPutRange(t *testing.T) {
	for _, seq := range noNumbers {
		for n := range 18 {
			checkPut(t, seq, many(n), "", api.ErrRange)
		}
		checkPut(t, seq, []api.Sector{{At: 1, Data: "x"}}, "", api.ErrRange)
		checkPut(t, seq, []api.Sector{full(1, 'x'), full(1, 'x')}, "", api.ErrRange)
	}
}

// 11.2: a transaction that may not be, with Check's error.
func TestPutCheck(t *testing.T) {
	for _, seq := range numbers {
		checkPut(t, seq, nil, "", api.ErrNone)
		checkPut(t, seq, many(17), "", api.ErrFull)
		checkPut(t, seq, many(300), "", api.ErrFull)
		checkPut(t, seq, []api.Sector{full(5, 'x'), full(5, 'y')}, "", api.ErrTwice)
		checkPut(t, seq, []api.Sector{{At: 5, Data: strings.Repeat("x", 63)}}, "", api.ErrSize)
		checkPut(t, seq, []api.Sector{{At: 5, Data: strings.Repeat("x", 128)}}, "", api.ErrSize)
		for _, at := range noPlaces {
			checkPut(t, seq, []api.Sector{full(5, 'x'), full(at, 'y')}, "", api.ErrRange)
		}
	}
}

// 11.2: what is handed in stays as it is, and what is handed out is nobody else's.
func TestPutKeepsNothing(t *testing.T) {
	l := many(16)
	whole, _ := Put(77, l)
	if !slices.Equal(l, many(16)) {
		t.Errorf("the transaction was changed: %v", l)
	}
	_, first, _ := Get(whole)
	first[0] = full(1, 'z')
	checkGet(t, whole, 77, l, api.OK)
	l[0] = full(1, 'z')
	checkGet(t, whole, 77, many(16), api.OK)
}

// 11.3: Size of bytes that are not just as many as a sector has, whatever they are.
func TestSizeSize(t *testing.T) {
	whole := recordOf(77, many(3))
	for n := range 200 {
		if n != 64 {
			checkSize(t, whole[:n], 77, 0, api.ErrSize)
			checkSize(t, strings.Repeat("x", n), 77, 0, api.ErrSize)
			checkSize(t, whole[:n], -1, 0, api.ErrSize)
		}
	}
	checkSize(t, whole, 77, 0, api.ErrSize)
}

// 11.3: Size of each number of sectors that there may be, and of those that there may not be.
func TestSizeMany(t *testing.T) {
	for _, seq := range numbers {
		for n := range 256 {
			first := padded("R" + bytesOf(seq, 6) + bytesOf(n, 1))
			if n >= 1 && n <= 16 {
				checkSize(t, first, seq, n+1, api.OK)
			} else {
				checkSize(t, first, seq, 0, api.ErrNone)
			}
		}
	}
}

// 11.3: Size looks at the first bytes alone, not at what is behind them, and not at the tail.
func TestSizeOfNoMore(t *testing.T) {
	whole := recordOf(77, many(5))
	for at := 8; at < 64; at++ {
		for mask := 1; mask < 256; mask++ {
			checkSize(t, changed(whole[:64], at, whole[at]^byte(mask)), 77, 6, api.OK)
		}
	}
	checkSize(t, whole[:8]+strings.Repeat("\xff", 56), 77, 6, api.OK)
}

// 11.3: Size of a sector that begins with another byte, or with another seq.
func TestSizeNone(t *testing.T) {
	for _, seq := range numbers {
		first := recordOf(seq, many(5))[:64]
		for b := range 256 {
			if b != 'R' {
				checkSize(t, changed(first, 0, byte(b)), seq, 0, api.ErrNone)
			}
		}
		for at := 1; at < 7; at++ {
			for mask := 1; mask < 256; mask++ {
				checkSize(t, changed(first, at, first[at]^byte(mask)), seq, 0, api.ErrNone)
			}
		}
		for _, other := range numbers {
			if other != seq {
				checkSize(t, first, other, 0, api.ErrNone)
			}
		}
		checkSize(t, padded(""), seq, 0, api.ErrNone)
		checkSize(t, strings.Repeat("\xff", 64), seq, 0, api.ErrNone)
		checkSize(t, strings.Repeat("R", 64), seq, 0, api.ErrNone)
	}
}

// 11.3: Size of a seq that no sector begins with, also where what stands behind R could be its sectors, or its 6 lowest bytes.
func TestSizeNoSeq(t *testing.T) {
	for _, seq := range noNumbers {
		for n := range 18 {
			checkSize(t, padded("R"+bytesOf(seq, 6)+bytesOf(n, 1)), seq, 0, api.ErrNone)
			checkSize(t, padded("R"+bytesOf(n, 1)), seq, 0, api.ErrNone)
			checkSize(t, padded("R"+bytesOf(n, 1)+bytesOf(0, 5)+bytesOf(n, 1)), seq, 0, api.ErrNone)
			checkSize(t, padded("R"+strings.Repeat("\xff", 6)+bytesOf(n, 1)), seq, 0, api.ErrNone)
		}
	}
}

// 11.3: Get of bytes that are no whole sectors, or none at all, whatever they are.
func TestGetSize(t *testing.T) {
	whole := recordOf(77, many(3))
	checkWrong(t, "", api.ErrSize)
	for n := range 400 {
		if n%64 != 0 {
			checkWrong(t, (whole + whole)[:n], api.ErrSize)
			checkWrong(t, strings.Repeat("x", n), api.ErrSize)
		}
	}
	for _, behind := range []string{"\x00", "x", whole[:63], whole[:65], strings.Repeat("\x00", 63)} {
		checkWrong(t, whole+behind, api.ErrSize)
		checkWrong(t, changed(whole, 0, 'L')+behind, api.ErrSize)
		checkWrong(t, changed(whole, 7, 0)+behind, api.ErrSize)
		checkWrong(t, changed(whole, 70, 0)+behind, api.ErrSize)
	}
}

// 11.3: Get of a record that begins with another byte, whether its tail is that of its bytes or not.
func TestGetMark(t *testing.T) {
	for _, n := range []int{1, 2, 16} {
		whole := recordOf(77, many(n))
		for first := range 256 {
			if first == 'R' {
				continue
			}
			other := changed(whole, 0, byte(first))
			checkWrong(t, other, api.ErrForm)
			checkWrong(t, recordWith(other[:8+2*n], other[64:]), api.ErrForm)
			checkWrong(t, changed(other, 63, 1), api.ErrForm)
			checkWrong(t, changed(other, 7, byte(n+1)), api.ErrForm)
		}
	}
	checkWrong(t, strings.Repeat("\x00", 128), api.ErrForm)
	checkWrong(t, strings.Repeat("\xff", 128), api.ErrForm)
}

// 11.3: Get of a record that tells other than as many sectors as stand behind, be the tail right for those it tells, for those there are, or wrong.
func TestGetMany(t *testing.T) {
	for n := 1; n <= 16; n++ {
		whole := recordOf(77, many(n))
		for told := range 256 {
			if told != n {
				other := changed(whole, 7, byte(told))
				checkWrong(t, other, api.ErrForm)
				checkWrong(t, recordWith(other[:8+2*n], other[64:]), api.ErrForm)
				checkWrong(t, recordWith(other[:8+2*min(told, 16)], other[64:]), api.ErrForm)
			}
		}
		for sectors := 1; sectors <= n; sectors++ {
			checkWrong(t, whole[:64*sectors], api.ErrForm)
		}
		checkWrong(t, whole+whole, api.ErrForm)
		checkWrong(t, whole+padded(""), api.ErrForm)
	}
}

// 11.3: Get of a record that tells how many stand behind, but none, or more than there may be.
func TestGetNoMany(t *testing.T) {
	checkWrong(t, recordWith(headOf(77, nil), ""), api.ErrForm)
	checkWrong(t, padded("R"), api.ErrForm)
	for n := 17; n <= 255; n++ {
		head := headOf(77, make([]api.Sector, n))
		data := strings.Repeat("x", 64*n)
		checkWrong(t, padded(head[:8])+data, api.ErrForm)
		checkWrong(t, (head + tailOf(head+data) + strings.Repeat("\x00", 64))[:64]+data, api.ErrForm)
	}
	// A byte can't tell 256 sectors: it tells none.
	checkWrong(t, padded("R")+strings.Repeat("x", 64*256), api.ErrForm)
	checkWrong(t, padded("R\x00\x00\x00\x00\x00\x00\x01")+strings.Repeat("x", 64*257), api.ErrForm)
}

// 11.3: Get of a record of which any byte of seq, of the places, of the tail or of the data is another one, also where it would be no transaction, or a byte behind the tail is not 0.
func TestGetSum(t *testing.T) {
	for _, l := range [][]api.Sector{many(1), many(3), many(16), {full(1000, 'x'), full(2, 'y')}, {full(2, 'x'), full(2, 'y')}} {
		whole := recordOf(77, l)
		tail := 8 + 2*len(l)
		for at := 1; at < len(whole); at++ {
			if at == 7 || at >= tail+4 && at < 64 {
				continue
			}
			for _, mask := range []byte{1, 2, 4, 8, 16, 32, 64, 128, 255} {
				other := changed(whole, at, whole[at]^mask)
				checkWrong(t, other, api.ErrSum)
				checkWrong(t, changed(other, tail+4, 1), api.ErrSum)
				checkWrong(t, changed(other, 63, 255), api.ErrSum)
			}
		}
	}
}

// 11.3: the tail is of R, of all the numbers and of all Data, not of less, not of the noughts too, and not turned round.
func TestGetSumOfAll(t *testing.T) {
	for _, n := range []int{1, 2, 16} {
		head, data := headOf(77, many(n)), dataOf(many(n))
		right := tailOf(head + data)
		for _, tail := range []string{
			tailOf(head), tailOf(data), tailOf(head[1:] + data), tailOf(head[:8] + data), tailOf(data + head),
			tailOf(head + data[:64*n-64]), tailOf(head + data[64:]), tailOf(padded(head) + data),
			string([]byte{right[3], right[2], right[1], right[0]}), "\x00\x00\x00\x00",
		} {
			if tail == right {
				t.Fatalf("%q is the right tail of %d sectors", tail, n)
			}
			checkWrong(t, padded(head+tail)+data, api.ErrSum)
		}
		checkGet(t, padded(head+right)+data, 77, many(n), api.OK)
	}
}

// 11.3: sectors of the data that changed places, though each is there, and a place that changed its sector.
func TestGetSumOfOrder(t *testing.T) {
	l := many(4)
	whole := recordOf(77, l)
	turned := slices.Clone(l)
	slices.Reverse(turned)
	checkWrong(t, whole[:64]+dataOf(turned), api.ErrSum)
	checkWrong(t, recordOf(77, turned)[:64]+whole[64:], api.ErrSum)
	checkWrong(t, recordOf(78, l)[:64]+dataOf(with(l, 3, full(l[3].At, 'z'))), api.ErrSum)
}

// 11.3: Get of a place that may not be, from the first one on, or of one that is there twice, though the tail is right.
func TestGetPlace(t *testing.T) {
	for at := 1000; at < 65536; at++ {
		checkWrong(t, recordOf(77, []api.Sector{full(at, 'x')}), api.ErrForm)
	}
	for n := 1; n <= 16; n++ {
		for i := range n {
			l := many(n)
			for _, at := range []int{1000, 1001, 1024, 32768, 65535} {
				checkWrong(t, recordOf(77, with(l, i, full(at, 'x'))), api.ErrForm)
			}
			for k := range i {
				checkWrong(t, recordOf(77, with(l, i, full(l[k].At, 'x'))), api.ErrForm)
				checkWrong(t, recordOf(77, with(l, i, l[k])), api.ErrForm)
			}
		}
	}
}

// 11.3: Get of a byte behind the tail that is not 0, wherever, and whatever it is, be the tail without it or not.
func TestGetBehind(t *testing.T) {
	for _, n := range []int{1, 2, 15, 16} {
		whole := recordOf(77, many(n))
		for at := 12 + 2*n; at < 64; at++ {
			for b := 1; b < 256; b++ {
				checkWrong(t, changed(whole, at, byte(b)), api.ErrForm)
			}
		}
	}
}

// The document's example.
func TestExample(t *testing.T) {
	s, e := Put(1, many(2))
	if len(s) != 3*64 || e != api.OK {
		t.Fatalf("%d bytes, error %d", len(s), e)
	}
	checkSize(t, s[:64], 1, 3, api.OK)
}

// 11.4: what was put is got, whichever transaction, in the order in which it was told, and no two have the same record.
func TestGetOfPut(t *testing.T) {
	some := rand.New(rand.NewSource(11))
	seen := map[string]bool{}
	for range 3000 {
		seq := some.Intn(1 << 48)
		var l []api.Sector
		for _, at := range some.Perm(1000)[:1+some.Intn(16)] {
			data := make([]byte, 64)
			some.Read(data)
			l = append(l, api.Sector{At: at, Data: string(data)})
		}
		s, e := Put(seq, l)
		if e != api.OK || s != recordOf(seq, l) {
			t.Fatalf("Put(%d, %v): error %d", seq, l, e)
		}
		checkGet(t, s, seq, l, api.OK)
		checkSize(t, s[:64], seq, len(s)/64, api.OK)
		if seen[s] {
			t.Errorf("%d, %v has another one's record", seq, l)
		}
		seen[s] = true
	}
}

// 11.4: no bytes are a record but what Put makes, though the tail is that of what is ahead of it, or just one byte is another one.
func TestNoOtherBytes(t *testing.T) {
	some := rand.New(rand.NewSource(12))
	for range 20000 {
		n := 1 + some.Intn(4)
		head, data := make([]byte, 8+2*n), make([]byte, 64*n)
		some.Read(head)
		some.Read(data)
		head[0], head[7] = 'R', byte(n)
		for i := range n {
			head[8+2*i] = byte(some.Intn(5))
		}
		s := recordWith(string(head), string(data))
		for _, s := range []string{s, changed(s, some.Intn(len(s)), byte(some.Intn(256)))} {
			seq, l, e := getByWords(s)
			checkGet(t, s, seq, l, e)
			if e == api.OK {
				checkPut(t, seq, l, s, api.OK)
			}
		}
	}
}

// sectorsOf makes sectors of any bytes: two a place, some a length.
func sectorsOf(s string) []api.Sector {
	var l []api.Sector
	for len(s) >= 3 {
		size := 64
		if s[2] >= 250 {
			size = int(s[2]) - 200
		}
		l = append(l, api.Sector{At: int(int16(s[0])<<8 | int16(s[1])), Data: strings.Repeat(s[2:3], size)})
		s = s[3:]
	}
	return l
}

// P1, and all promises, at any numbers, sectors and bytes.
func FuzzRecords(f *testing.F) {
	for _, k := range known {
		f.Add(k.seq, "\x00\x01a\x00\x02b", padded(k.bytes)+dataOf(k.l))
		f.Add(k.seq+1, "\x00\x01a\x00\x01b", k.bytes)
	}
	f.Add(-1, "", "")
	f.Add(77, "\x03\xe7x\x03\xe8x", padded("R\x00\x00\x00\x00\x00\x4d\x02"))
	f.Add(top, "\x00\x01\xfa", strings.Repeat("R", 128))
	f.Add(1<<48, strings.Repeat("\x00\x01a", 17), strings.Repeat("\x00", 128))
	f.Add(math.MinInt, "\xff\xff\xff", recordWith("R\x00\x00\x00\x00\x00\x00\x01\xff\xff", strings.Repeat("x", 64)))
	f.Fuzz(func(t *testing.T, seq int, sectors, s string) {
		l := sectorsOf(sectors)
		checkCheck(t, l, mayBeByWords(l))
		put, e := putByWords(seq, l)
		checkPut(t, seq, l, put, e)
		made := s
		if behind := len(s)/64 - 1; len(s)%64 == 0 && behind >= 1 && behind <= 16 {
			made = recordWith("R"+s[1:7]+bytesOf(behind, 1)+s[8:8+2*behind], s[64:])
		}
		for _, s := range []string{put, s, made} {
			first := s[:min(64, len(s))]
			for _, seq := range []int{seq, numberOf(first[min(1, len(first)):min(7, len(first))])} {
				size, e := sizeByWords(first, seq)
				checkSize(t, first, seq, size, e)
			}
			gotSeq, got, e := getByWords(s)
			checkGet(t, s, gotSeq, got, e)
			if e == api.OK {
				checkPut(t, gotSeq, got, s, api.OK)
			}
		}
	})
}
