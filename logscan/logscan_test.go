package logscan

import (
	"math"
	"math/rand"
	"slices"
	"strings"
	"testing"

	"solder/api"
	"solder/disk"
	"solder/logrec"
	"solder/region"
)

// top is the greatest number that a record may have.
const top = 1<<48 - 1

// Numbers that no record has, also those of which six bytes would be a right one.
var noNumbers = []int{-1, -2, -77, -top, -1 << 48, 1 << 48, 1<<48 + 1, 1<<48 + 77, 1 << 56, math.MaxInt, math.MaxInt - 1, math.MinInt, math.MinInt + 1}

// Places that are below or beyond any log, also such as wrap round if something is added.
var far = []int{-1, -2, -64, -1000, -1 << 32, math.MinInt, math.MinInt + 1, 1000, 1001, 1 << 32, 1<<32 + 1, math.MaxInt/2 + 1, math.MaxInt - 1, math.MaxInt}

// Numbers of bytes that are no whole sectors, or none.
var partial = []int{0, 1, 2, 63, 65, 100, 127, 129, 191, 193, 64<<10 - 1, 64<<10 + 1}

// filler is what a sector has ahead of all tests: bytes of its own, that are no record's first ones.
func filler(at int) string { return string([]byte{byte(at), byte(at >> 8)}) + strings.Repeat("f", 62) }

// made is a disk of so many sectors, with fillers for sure, and a part of it.
func made(t testing.TB, sectors, from, many int) (*disk.Disk, *region.Region) {
	t.Helper()
	d := disk.New(sectors)
	for at := range sectors {
		checkErr(t, "Write of the disk", d.Write(at, filler(at)), api.OK)
	}
	checkErr(t, "Flush of the disk", d.Flush(), api.OK)
	r, e := region.New(d, from, many)
	if e != api.OK {
		t.Fatalf("New(%d, %d): error %d", from, many, e)
	}
	return d, r
}

// bytesOf is so many sectors' bytes, each sector another one.
func bytesOf(letter byte, many int) string {
	var b strings.Builder
	for k := range many {
		b.WriteString(string([]byte{letter, byte(k), byte(k >> 8)}) + strings.Repeat(string([]byte{letter}), 61))
	}
	return b.String()
}

// transaction is one of so many sectors, that has places and bytes of its own for each number.
func transaction(seq, many int) []api.Sector {
	var l []api.Sector
	for k := range many {
		l = append(l, api.Sector{At: (k*61 + seq&255) % 1000, Data: bytesOf(byte('a'+(seq+k)&15), k+1)[64*k:]})
	}
	return l
}

// recordOf is such a transaction as a record: it has a sector more.
func recordOf(t testing.TB, seq, many int) string {
	t.Helper()
	s, e := logrec.Put(seq, transaction(seq, many))
	if e != api.OK {
		t.Fatalf("a record %d of %d: error %d", seq, many, e)
	}
	return s
}

// put lays a record that has to be laid.
func put(t testing.TB, r *region.Region, at int, s string) {
	t.Helper()
	checkErr(t, "Put", Put(r, at, s), api.OK)
}

// putAll lays records one behind the other, each of so many sectors beside its first one, and answers what has to be told of them, and where they end.
func putAll(t testing.TB, r *region.Region, at, seq int, sizes ...int) ([]Record, int, int, int) {
	t.Helper()
	var l []Record
	used := 0
	for _, many := range sizes {
		put(t, r, at, recordOf(t, seq, many))
		l = append(l, Record{Seq: seq, At: at, Sectors: transaction(seq, many)})
		at = (at + many + 1) % r.Many()
		seq++
		used += many + 1
	}
	return l, at, seq, used
}

// change lays other bytes into a byte of a log.
func change(t testing.TB, r *region.Region, i, at int, mask byte) {
	t.Helper()
	s, e := r.Read(i, 1)
	checkErr(t, "Read", e, api.OK)
	b := []byte(s)
	b[at] ^= mask
	checkErr(t, "Write", r.Write(i, string(b)), api.OK)
}

// told is all records that Each tells, and its error.
func told(r *region.Region, at, seq int) ([]Record, api.Errno) {
	var l []Record
	e := Each(r, at, seq, func(x Record) bool {
		l = append(l, x)
		return true
	})
	return l, e
}

// same tells whether records are the same.
func same(a, b []Record) bool {
	return slices.EqualFunc(a, b, func(x, y Record) bool {
		return x.Seq == y.Seq && x.At == y.At && slices.Equal(x.Sectors, y.Sectors)
	})
}

// places is records in short.
func places(l []Record) [][3]int {
	var p [][3]int
	for _, x := range l {
		p = append(p, [3]int{x.Seq, x.At, len(x.Sectors)})
	}
	return p
}

// checkErr sees that an error is the one that is asked for.
func checkErr(t testing.TB, what string, got, want api.Errno) {
	t.Helper()
	if got != want {
		t.Errorf("%s: error %d, want %d", what, got, want)
	}
}

// checkDisk sees that the disk has just these bytes.
func checkDisk(t testing.TB, d *disk.Disk, want []string) {
	t.Helper()
	for at, data := range want {
		if got, e := d.Read(at); got != data || e != api.OK {
			t.Errorf("sector %d: %q, error %d, want %q", at, got, e, data)
		}
	}
}

// fillers is what a disk of so many sectors has at first.
func fillers(many int) []string {
	var l []string
	for at := range many {
		l = append(l, filler(at))
	}
	return l
}

// checkRefused sees that Put answers an error, and that the disk is not asked.
func checkRefused(t testing.TB, d *disk.Disk, r *region.Region, at int, s string, want api.Errno) {
	t.Helper()
	ops := d.Ops()
	if e := Put(r, at, s); e != want || d.Ops() != ops {
		t.Errorf("Put(%d, %d bytes): error %d, %d calls, want %d and none", at, len(s), e, d.Ops()-ops, want)
	}
}

// checkTold sees that just these records are told, and where they end.
func checkTold(t testing.TB, r *region.Region, at, seq int, want []Record, endAt, endSeq, endUsed int) {
	t.Helper()
	if got, e := told(r, at, seq); !same(got, want) || e != api.OK {
		t.Errorf("Each(%d, %d): %v, error %d, want %v", at, seq, places(got), e, places(want))
	}
	if x, s, used, e := End(r, at, seq); x != endAt || s != endSeq || used != endUsed || e != api.OK {
		t.Errorf("End(%d, %d): %d, %d, %d, error %d, want %d, %d, %d", at, seq, x, s, used, e, endAt, endSeq, endUsed)
	}
}

// checkNone sees that no record is told.
func checkNone(t testing.TB, r *region.Region, at, seq int) {
	t.Helper()
	checkTold(t, r, at, seq, nil, at, seq, 0)
}

// checkNot sees that Each and End answer an error, with nothing beside it, and that the disk is not asked.
func checkNot(t testing.TB, d *disk.Disk, r *region.Region, at, seq int, want api.Errno) {
	t.Helper()
	ops := d.Ops()
	if got, e := told(r, at, seq); len(got) != 0 || e != want {
		t.Errorf("Each(%d, %d): %v, error %d, want %d", at, seq, places(got), e, want)
	}
	checkErr(t, "Each of no yield", Each(r, at, seq, nil), want)
	if x, s, used, e := End(r, at, seq); x != 0 || s != 0 || used != 0 || e != want {
		t.Errorf("End(%d, %d): %d, %d, %d, error %d, want %d", at, seq, x, s, used, e, want)
	}
	if d.Ops() != ops {
		t.Errorf("Each or End(%d, %d) asked the disk", at, seq)
	}
}

// toldByWords is what is told of a log's sectors, by the document's words, and where it ends.
func toldByWords(log []string, at, seq int) ([]Record, int, int, int) {
	var l []Record
	has := map[int]bool{} // the sectors that a record ahead has
	for !has[at] {
		many, e := logrec.Size(log[at], seq)
		if e != api.OK || many > len(log) {
			break
		}
		s, free := "", true
		for k := range many {
			i := (at + k) % len(log)
			s += log[i]
			free = free && !has[i]
		}
		got, sectors, e := logrec.Get(s)
		if !free || e != api.OK || got != seq {
			break
		}
		l = append(l, Record{Seq: seq, At: at, Sectors: sectors})
		for k := range many {
			has[(at+k)%len(log)] = true
		}
		at, seq = (at+many)%len(log), seq+1
	}
	return l, at, seq, len(has)
}

// checkByWords sees that what is told is what the document's words say.
func checkByWords(t testing.TB, r *region.Region, at, seq int) {
	t.Helper()
	var log []string
	for i := range r.Many() {
		s, e := r.Read(i, 1)
		checkErr(t, "Read", e, api.OK)
		log = append(log, s)
	}
	want, endAt, endSeq, endUsed := toldByWords(log, at, seq)
	checkTold(t, r, at, seq, want, endAt, endSeq, endUsed)
}

// 12.1: from each place on each number of sectors is laid, round, one call of the disk each, and no other sector changes.
func TestPut(t *testing.T) {
	for many := 1; many <= 7; many++ {
		for at := range many {
			for n := 1; n <= many; n++ {
				d, r := made(t, 10, 2, many)
				want := fillers(10)
				s := bytesOf('x', n)
				for k := range n {
					want[2+(at+k)%many] = s[64*k : 64*k+64]
				}
				ops := d.Ops()
				put(t, r, at, s)
				if d.Ops() != ops+n || d.Waits() != n {
					t.Errorf("Put of %d sectors: %d calls, Waits %d", n, d.Ops()-ops, d.Waits())
				}
				checkDisk(t, d, want)
			}
		}
	}
}

// 12.1: a log of as many sectors as a disk may have is laid at once; of bytes that are no record, too.
func TestPutWhole(t *testing.T) {
	d, r := made(t, 1000, 0, 1000)
	for _, at := range []int{0, 1, 500, 999} {
		s := bytesOf('w', 1000)
		put(t, r, at, s)
		want := make([]string, 1000)
		for k := range 1000 {
			want[(at+k)%1000] = s[64*k : 64*k+64]
		}
		checkDisk(t, d, want)
		checkRefused(t, d, r, at, bytesOf('x', 1001), api.ErrRange)
		checkDisk(t, d, want)
	}
}

// order is at which place of a log the k-th of n sectors is laid: the second one first, then the others in their order, the first one at last.
func order(at, k, n, many int) (int, int) {
	i := k + 1
	if i == n {
		i = 0
	}
	return i, (at + i) % many
}

// 12.1: the first one is laid at last, the others in their order ahead of it: what waits of it, each alone, survives as that order says.
func TestPutOrder(t *testing.T) {
	for n := 1; n <= 5; n++ {
		for at := range 5 {
			for k := range n {
				d, r := made(t, 8, 1, 5)
				s := bytesOf('x', n)
				put(t, r, at, s)
				choices := make([]int, n)
				choices[k] = 1
				d.Restart(choices)
				want := fillers(8)
				i, place := order(at, k, n, 5)
				want[1+place] = s[64*i : 64*i+64]
				checkDisk(t, d, want)
			}
		}
	}
}

// 12.1: up to the first error sectors are laid, and none from it on: so the first one, too, is not.
func TestPutFails(t *testing.T) {
	for n := 1; n <= 5; n++ {
		for at := range 5 {
			for k := range n {
				d, r := made(t, 8, 1, 5)
				s := bytesOf('x', n)
				want := fillers(8)
				for j := range k {
					i, place := order(at, j, n, 5)
					want[1+place] = s[64*i : 64*i+64]
				}
				ops := d.Ops()
				d.Fail(ops + 1 + k)
				d.DownAt(ops + 2 + k)
				checkErr(t, "Put", Put(r, at, s), api.ErrIO)
				if d.Ops() != ops+1+k || d.Waits() != k {
					t.Errorf("failed at %d of %d: %d calls, Waits %d", k, n, d.Ops()-ops, d.Waits())
				}
				d.DownAt(0)
				checkDisk(t, d, want)
			}
		}
	}
}

// 12.1: a disk that goes down ends it, and is that error; what is laid may survive, with the one at which it went down (8.1).
func TestPutGoesDown(t *testing.T) {
	for n := 1; n <= 5; n++ {
		for k := range n {
			d, r := made(t, 8, 1, 5)
			s := bytesOf('x', n)
			want := fillers(8)
			for j := range k + 1 {
				i, place := order(3, j, n, 5)
				want[1+place] = s[64*i : 64*i+64]
			}
			ops := d.Ops()
			d.DownAt(ops + 1 + k)
			checkErr(t, "Put", Put(r, 3, s), api.ErrDown)
			if d.Ops() != ops+1+k {
				t.Errorf("down at %d of %d: %d calls", k, n, d.Ops()-ops)
			}
			checkErr(t, "Put", Put(r, 3, s), api.ErrDown)
			d.Restart([]int{1, 1, 1, 1, 1})
			checkDisk(t, d, want)
		}
	}
}

// 12.1: bytes that are no whole sectors, or none, are refused, and that is told ahead of a wrong place, and of too many.
func TestPutSize(t *testing.T) {
	d, r := made(t, 8, 1, 5)
	for _, size := range partial {
		s := strings.Repeat("p", size)
		for _, at := range append([]int{0, 1, 4, 5, 6}, far...) {
			checkRefused(t, d, r, at, s, api.ErrSize)
		}
	}
	checkDisk(t, d, fillers(8))
}

// 12.1: a place that is no sector of the log is refused, and so is more than the log has, wherever.
func TestPutRange(t *testing.T) {
	d, r := made(t, 8, 1, 5)
	for n := 1; n <= 8; n++ {
		for _, at := range append([]int{5, 6, 7, 8}, far...) {
			checkRefused(t, d, r, at, bytesOf('x', n), api.ErrRange)
		}
	}
	for n := 6; n <= 12; n++ {
		for at := range 5 {
			checkRefused(t, d, r, at, bytesOf('x', n), api.ErrRange)
		}
	}
	checkRefused(t, d, r, 0, bytesOf('x', 2000), api.ErrRange)
	checkDisk(t, d, fillers(8))
}

// 12.1, 12.2: of nil ErrState, whatever else is wrong.
func TestNil(t *testing.T) {
	d := disk.New(0)
	for _, at := range append([]int{0, 1}, far...) {
		for _, s := range []string{"", "x", bytesOf('x', 1), bytesOf('x', 2), recordOf(t, 5, 1)} {
			checkRefused(t, d, nil, at, s, api.ErrState)
		}
		for _, seq := range append([]int{0, 1, top}, noNumbers...) {
			checkNot(t, d, nil, at, seq, api.ErrState)
		}
	}
}

// 12.1, 12.2: a log of no sectors has no place.
func TestNoSectors(t *testing.T) {
	d, none := made(t, 8, 3, 0)
	for name, r := range map[string]*region.Region{"of none": none, "not made": {}} {
		for _, at := range append([]int{0, 1}, far...) {
			checkRefused(t, d, r, at, "", api.ErrSize)
			checkRefused(t, d, r, at, "x", api.ErrSize)
			checkRefused(t, d, r, at, bytesOf('x', 1), api.ErrRange)
			checkNot(t, d, r, at, 0, api.ErrRange)
		}
		if t.Failed() {
			t.Fatalf("a log %s", name)
		}
	}
}

// 12.2: a place that is no sector of the log is refused, whatever the number, also where records stand.
func TestRange(t *testing.T) {
	d, r := made(t, 12, 2, 6)
	putAll(t, r, 0, 100, 2, 2)
	for _, at := range append([]int{6, 7, 8, 9, 12}, far...) {
		for _, seq := range append([]int{0, 100, top}, noNumbers...) {
			checkNot(t, d, r, at, seq, api.ErrRange)
		}
	}
}

// 12.2: the example of the chapter.
func TestExample(t *testing.T) {
	_, r := made(t, 9, 2, 5)
	l, at, seq, used := putAll(t, r, 4, 50, 1, 1)
	if l[0].At != 4 || l[1].At != 1 || at != 3 || used != 4 {
		t.Fatalf("%v, %d, %d", places(l), at, used)
	}
	checkTold(t, r, 4, 50, l, 3, seq, 4)
}

// 12.2: records one behind the other are told as they were put, from each place on, and from each of them on.
func TestEach(t *testing.T) {
	sizes := []int{1, 3, 16, 2, 1, 5}
	for many := 34; many <= 36; many++ {
		for at := range many {
			d, r := made(t, 40, 3, many)
			l, endAt, endSeq, used := putAll(t, r, at, 100, sizes...)
			checkErr(t, "Flush", r.Flush(), api.OK)
			checkTold(t, r, at, 100, l, endAt, endSeq, used)
			for i, x := range l {
				checkTold(t, r, x.At, x.Seq, l[i:], endAt, endSeq, used)
				used -= len(x.Sectors) + 1
			}
			checkNone(t, r, endAt, endSeq)
			if d.Waits() != 0 {
				t.Errorf("Each or End wrote %d sectors", d.Waits())
			}
		}
	}
}

// 12.2: from a sector that is no record's first one on, and with any other number, nothing is told.
func TestOther(t *testing.T) {
	_, r := made(t, 20, 4, 12)
	l, _, _, _ := putAll(t, r, 9, 100, 2, 1, 3)
	for at := range 12 {
		for seq := 97; seq <= 106; seq++ {
			if !slices.ContainsFunc(l, func(x Record) bool { return x.At == at && x.Seq == seq }) {
				checkNone(t, r, at, seq)
			}
		}
		for _, seq := range noNumbers {
			checkNone(t, r, at, seq)
		}
	}
}

// 12.2: a log without records ends where it begins, also of one sector, and of noughts.
func TestNoRecords(t *testing.T) {
	for many := 1; many <= 5; many++ {
		_, filled := made(t, 8, 1, many)
		noughts, e := region.New(disk.New(8), 1, many)
		checkErr(t, "New", e, api.OK)
		for at := range many {
			for _, seq := range append([]int{0, 1, top}, noNumbers...) {
				checkNone(t, filled, at, seq)
				checkNone(t, noughts, at, seq)
			}
		}
	}
}

// 12.2: the numbers rise by one: a record with the same one, an older one or a newer one behind another one is not told, nor is what stands behind it.
func TestNumbers(t *testing.T) {
	for _, second := range []int{0, 1, 98, 99, 100, 102, 103, 101 + 256, 101 + 1<<40, top} {
		_, r := made(t, 20, 4, 12)
		l, at, seq, used := putAll(t, r, 10, 100, 2)
		_, behind, _, _ := putAll(t, r, at, second, 2)
		putAll(t, r, behind, 102, 2)
		checkTold(t, r, 10, 100, l, at, seq, used)
		more, _, _, _ := putAll(t, r, at, seq, 2)
		last := Record{Seq: 102, At: behind, Sectors: transaction(102, 2)}
		checkTold(t, r, 10, 100, slices.Concat(l, more, []Record{last}), (behind+3)%12, 103, 9)
	}
}

// 12.2: the last number that a record may have is told, and none is behind it, also not one whose six bytes are alike.
func TestLastNumber(t *testing.T) {
	for _, behind := range []int{0, 1, top} {
		_, r := made(t, 20, 4, 12)
		l, at, seq, used := putAll(t, r, 8, top-1, 1, 2)
		putAll(t, r, at, behind, 2)
		if seq != 1<<48 {
			t.Fatalf("number %d", seq)
		}
		checkTold(t, r, 8, top-1, l, at, 1<<48, used)
		checkTold(t, r, l[1].At, top, l[1:], at, 1<<48, 3)
		checkNone(t, r, at, 1<<48)
	}
	_, r := made(t, 20, 4, 12)
	l, at, seq, used := putAll(t, r, 11, 0, 3, 1)
	checkTold(t, r, 11, 0, l, at, seq, used)
}

// 12.2: of a record of which any byte is another one nothing is told, nor of those behind it; those ahead are.
func TestChanged(t *testing.T) {
	_, r := made(t, 20, 4, 11)
	l, _, _, _ := putAll(t, r, 9, 100, 1, 3, 2)
	for i, x := range l {
		used := 0
		for _, y := range l[:i] {
			used += len(y.Sectors) + 1
		}
		for k := range len(x.Sectors) + 1 {
			for _, at := range []int{0, 1, 6, 7, 8, 9, 12, 20, 40, 63} {
				place := (x.At + k) % 11
				change(t, r, place, at, 1)
				checkTold(t, r, 9, 100, l[:i], x.At, x.Seq, used)
				change(t, r, place, at, 1)
			}
		}
	}
	checkByWords(t, r, 9, 100)
}

// 12.2: a record that is laid halfway, as the disk failed, is not told, wherever that was; those ahead are.
func TestHalfway(t *testing.T) {
	for k := range 4 {
		d, r := made(t, 20, 4, 11)
		l, at, seq, used := putAll(t, r, 5, 100, 1, 2)
		d.Fail(d.Ops() + 1 + k)
		checkErr(t, "Put", Put(r, at, recordOf(t, seq, 3)), api.ErrIO)
		checkTold(t, r, 5, 100, l, at, seq, used)
		more, at, seq, _ := putAll(t, r, at, seq, 3)
		checkTold(t, r, 5, 100, append(l, more...), at, seq, used+4)
	}
}

// 12.2: a record of as many sectors as the log has is told, and one of more is not, at each place.
func TestWholeLog(t *testing.T) {
	for n := 1; n <= 16; n++ {
		for at := range n + 1 {
			_, r := made(t, 20, 2, n+1)
			l, endAt, endSeq, used := putAll(t, r, at, 7, n)
			checkTold(t, r, at, 7, l, endAt, endSeq, used)
			if endAt != at || used != n+1 {
				t.Fatalf("%d sectors end at %d", used, endAt)
			}
		}
		for at := range n {
			d, r := made(t, 20, 2, n)
			s := recordOf(t, 7, n)
			checkRefused(t, d, r, at, s, api.ErrRange)
			put(t, r, at, s[:64*n])
			checkNone(t, r, at, 7)
		}
	}
}

// 12.2: records that have all sectors are told once, and no other one behind them, also if the first one's sectors are one by then.
func TestFull(t *testing.T) {
	for at := range 9 {
		d, r := made(t, 12, 2, 9)
		l, endAt, endSeq, used := putAll(t, r, at, 100, 1, 3, 2)
		if endAt != at || used != 9 {
			t.Fatalf("%d sectors end at %d", used, endAt)
		}
		checkTold(t, r, at, 100, l, at, endSeq, 9)
		var got []Record
		e := Each(r, at, 100, func(x Record) bool {
			got = append(got, x)
			if x.Seq == 102 {
				put(t, r, at, recordOf(t, 103, 1))
			}
			return true
		})
		if !same(got, l) || e != api.OK {
			t.Errorf("Each: %v, error %d", places(got), e)
		}
		checkErr(t, "Flush", d.Flush(), api.OK)
	}
}

// 12.2: behind records that have all sectors nothing is left to be read, so that no error is met there.
func TestFullReads(t *testing.T) {
	d, r := made(t, 12, 2, 9)
	putAll(t, r, 4, 100, 1, 3, 2)
	ops := d.Ops()
	d.Fail(ops + 10)
	if got, e := told(r, 4, 100); len(got) != 3 || e != api.OK || d.Ops() != ops+9 {
		t.Errorf("Each: %v, error %d, %d calls", places(got), e, d.Ops()-ops)
	}
}

// 12.2: a record that would go on in sectors of one ahead is not told, though with these it would be a record.
func TestInto(t *testing.T) {
	for start := range 6 {
		_, r := made(t, 12, 2, 6)
		first, at, seq, used := putAll(t, r, start, 100, 1)
		head, e := r.Read(start, 1)
		checkErr(t, "Read", e, api.OK)
		l := transaction(101, 4)
		l[3].Data = head
		s, e := logrec.Put(101, l)
		checkErr(t, "a record", e, api.OK)
		put(t, r, at, s)
		// Alone it is one: its last sector is just what the first record has there.
		checkTold(t, r, at, 101, []Record{{Seq: 101, At: at, Sectors: l}}, (start+1)%6, 102, 5)
		checkTold(t, r, start, 100, first, at, seq, used)
	}
}

// 12.2: no sector beside the log is read, though it would be the record's next one.
func TestBeside(t *testing.T) {
	d, r := made(t, 12, 2, 5)
	s := recordOf(t, 100, 3)
	for k := range 4 {
		checkErr(t, "Write of the disk", d.Write(5+k, s[64*k:64*k+64]), api.OK)
	}
	checkNone(t, r, 3, 100)
	put(t, r, 3, s)
	checkTold(t, r, 3, 100, []Record{{Seq: 100, At: 3, Sectors: transaction(100, 3)}}, 2, 101, 4)
}

// 12.2: it is told as long as yield answers true, up to the one of which it answers false.
func TestYield(t *testing.T) {
	_, r := made(t, 30, 4, 20)
	l, _, _, _ := putAll(t, r, 15, 100, 1, 3, 2, 1)
	for most := 1; most <= len(l); most++ {
		var got []Record
		e := Each(r, 15, 100, func(x Record) bool {
			got = append(got, x)
			return len(got) < most
		})
		if !same(got, l[:most]) || e != api.OK {
			t.Errorf("up to %d: %v, error %d", most, places(got), e)
		}
	}
}

// 12.2: an error that comes once yield has answered false is none; if it has answered true, it is Each's.
func TestYieldDown(t *testing.T) {
	for _, more := range []bool{false, true} {
		d, r := made(t, 30, 4, 20)
		l, _, _, _ := putAll(t, r, 15, 100, 1, 3)
		var got []Record
		e := Each(r, 15, 100, func(x Record) bool {
			got = append(got, x)
			d.DownAt(d.Ops() + 1)
			return more
		})
		want := api.OK
		if more {
			want = api.ErrDown
		}
		if !same(got, l[:1]) || e != want {
			t.Errorf("%v: %v, error %d", more, places(got), e)
		}
	}
}

// P1: without a yield nothing is told.
func TestNoYield(t *testing.T) {
	d, r := made(t, 30, 4, 20)
	checkErr(t, "Each", Each(r, 15, 100, nil), api.OK)
	putAll(t, r, 15, 100, 1, 3)
	checkErr(t, "Each", Each(r, 15, 100, nil), api.OK)
	d.DownAt(d.Ops() + 1)
	checkErr(t, "Each", Each(r, 15, 100, nil), api.ErrDown)
}

// 12.2: the first error of reading, at any call, ends it and is that; what was told ahead of it was right, and End has nothing beside it.
func TestReadFails(t *testing.T) {
	d, r := made(t, 30, 4, 20)
	l, _, _, _ := putAll(t, r, 15, 100, 1, 3, 2, 1)
	checkErr(t, "Flush", d.Flush(), api.OK)
	ops := d.Ops()
	got, e := told(r, 15, 100)
	calls := d.Ops() - ops
	if !same(got, l) || e != api.OK || calls < 12 {
		t.Fatalf("%v, error %d, %d calls", places(got), e, calls)
	}
	seen := 0
	for k := 1; k <= calls; k++ {
		for _, want := range []api.Errno{api.ErrIO, api.ErrDown} {
			fail := func() {
				if want == api.ErrIO {
					d.Fail(d.Ops() + k)
					d.DownAt(d.Ops() + k + 1)
				} else {
					d.DownAt(d.Ops() + k)
				}
			}
			fail()
			got, e := told(r, 15, 100)
			if e != want || len(got) < seen || !same(got, l[:len(got)]) {
				t.Errorf("at call %d: %v, error %d, want %d", k, places(got), e, want)
			}
			seen = len(got)
			d.Restart(nil)
			fail()
			if x, s, used, e := End(r, 15, 100); x != 0 || s != 0 || used != 0 || e != want {
				t.Errorf("at call %d: End %d, %d, %d, error %d, want %d", k, x, s, used, e, want)
			}
			d.Restart(nil)
		}
	}
	if seen != len(l) {
		t.Errorf("up to the last call %d records were told", seen)
	}
}

// 12.2: what is told is the callback's own: it may change it, and the next one is told the same.
func TestOwn(t *testing.T) {
	d, r := made(t, 30, 4, 20)
	l, at, seq, used := putAll(t, r, 15, 100, 1, 3, 2, 1)
	e := Each(r, 15, 100, func(x Record) bool {
		clear(x.Sectors)
		x.Sectors = append(x.Sectors, api.Sector{At: 1})
		x.At, x.Seq = -1, -1
		return true
	})
	checkErr(t, "Each", e, api.OK)
	checkTold(t, r, 15, 100, l, at, seq, used)
	// What was told is no part of the disk: it stays as it was.
	got, _ := told(r, 15, 100)
	for i := range 20 {
		checkErr(t, "Write", r.Write(i, strings.Repeat("z", 64)), api.OK)
	}
	checkErr(t, "Flush", d.Flush(), api.OK)
	if !same(got, l) {
		t.Errorf("%v", places(got))
	}
}

// P1: a callback that lays a record more each time is told it, up to as many sectors as there are.
func TestYieldPuts(t *testing.T) {
	_, r := made(t, 30, 4, 21)
	l, at, seq, _ := putAll(t, r, 18, 100, 2)
	var got []Record
	e := Each(r, 18, 100, func(x Record) bool {
		got = append(got, x)
		more, nextAt, nextSeq, _ := putAll(t, r, at, seq, 1)
		l, at, seq = append(l, more...), nextAt, nextSeq
		return true
	})
	// 3 sectors, and 2 each nine times: the last one that was laid has sectors of the first one again.
	if len(got) != 10 || !same(got, l[:10]) || e != api.OK {
		t.Errorf("told %v, error %d", places(got), e)
	}
}

// P1: of one log two are gone through at once, each with records of its own.
func TestWithin(t *testing.T) {
	_, r := made(t, 30, 4, 20)
	l, at, seq, used := putAll(t, r, 15, 100, 1, 3, 2, 1)
	i := 0
	e := Each(r, 15, 100, func(x Record) bool {
		checkTold(t, r, x.At, x.Seq, l[i:], at, seq, used)
		used -= len(x.Sectors) + 1
		i++
		return true
	})
	if i != len(l) || e != api.OK {
		t.Errorf("told %d, error %d", i, e)
	}
}

// 12.3: what was put one behind the other is told, as long as it has no more sectors than there are, whichever log, place and number.
func TestAll(t *testing.T) {
	some := rand.New(rand.NewSource(12))
	for range 400 {
		many := 2 + some.Intn(200)
		_, r := made(t, 220, some.Intn(18), many)
		at, seq := some.Intn(many), some.Intn(1<<48-200)
		start, number := at, seq
		var l []Record
		left := many
		for left >= 2 {
			more, nextAt, nextSeq, used := putAll(t, r, at, seq, 1+some.Intn(min(16, left-1)))
			l = append(l, more...)
			at, seq, left = nextAt, nextSeq, left-used
			if some.Intn(8) == 0 {
				checkTold(t, r, start, number, l, at, seq, many-left)
			}
		}
		checkTold(t, r, start, number, l, at, seq, many-left)
	}
}

// 12.3: a log that goes round many times tells what stands in it from the first record that is whole on; from one that was written over on it tells none.
func TestRoundAndRound(t *testing.T) {
	some := rand.New(rand.NewSource(13))
	for range 20 {
		many := 20 + some.Intn(30)
		_, r := made(t, 60, 5, many)
		at, seq, used := some.Intn(many), 1000, 0
		var l []Record
		for range 60 {
			n := 1 + some.Intn(16)
			for used+n+1 > many {
				used -= len(l[0].Sectors) + 1
				l = l[1:]
			}
			gone := Record{At: -1}
			if len(l) > 0 {
				gone = l[0]
			}
			more, nextAt, nextSeq, size := putAll(t, r, at, seq, n)
			l = append(l, more...)
			at, seq, used = nextAt, nextSeq, used+size
			checkTold(t, r, l[0].At, l[0].Seq, l, at, seq, used)
			if gone.At >= 0 && gone.Seq < l[0].Seq {
				checkByWords(t, r, gone.At, gone.Seq)
			}
		}
	}
}

// P1, and all promises, of logs in which anything was laid: each two bytes lay a record, or whatever, or change a byte.
func FuzzLogs(f *testing.F) {
	f.Add(5, 4, 100, "\x01\x00\x01\x00")
	f.Add(20, 19, 100, "\x02\x00\x05\x00\x10\x00\x01\x03")
	f.Add(20, 19, 100, "\x02\x00\x05\x00\xf0\x07\x01\x01\xc3\x09")
	f.Add(3, 0, top, "\x01\x00\x01\x00")
	f.Add(0, 0, 0, "")
	f.Add(18, -1, -1, "\x10\x00")
	f.Add(40, math.MaxInt, math.MaxInt, "\x10\x00\x10\x02")
	f.Fuzz(func(t *testing.T, many, at, seq int, acts string) {
		many &= 63
		d, r := made(t, 70, 3, many)
		here, number := at, seq
		for ; len(acts) >= 2; acts = acts[2:] {
			kind, x := acts[0], int(acts[1])
			switch {
			case kind >= 0xe0:
				Put(r, x, bytesOf('y', int(kind-0xe0)))
			case kind >= 0xc0 && many > 0:
				change(t, r, x%many, x*int(kind)%64, 1<<(kind&7))
			case number >= 0 && number <= top:
				s := recordOf(t, number, 1+int(kind)&15)
				if Put(r, here, s) == api.OK {
					here, number = (here+len(s)/64)%many, number+1+x/64
				}
			}
		}
		for _, from := range []int{at, here, 0, many / 2} {
			for _, n := range []int{seq, number, 0} {
				if from < 0 || from >= many {
					checkNot(t, d, r, from, n, api.ErrRange)
				} else {
					checkByWords(t, r, from, n)
				}
			}
		}
		want := fillers(70)
		checkDisk(t, d, want[:3])
		for i := 3 + many; i < 70; i++ {
			if got, e := d.Read(i); got != want[i] || e != api.OK {
				t.Errorf("sector %d beside the log has changed", i)
			}
		}
	})
}
