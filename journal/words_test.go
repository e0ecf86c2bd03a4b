package journal

import (
	"hash/crc32"
	"slices"
	"strings"
	"testing"

	"solder/api"
	"solder/disk"
	"solder/layout"
	"solder/marks"
	"solder/wal"
)

// The tests write the numbers of a set as the bits of a number, the lowest for 0.

// usual is the volume of most tests: its last byte of marks has bits that are no number.
var usual = api.Config{Extents: 9, Slots: 2, Log: 24}

// Volumes that may not be.
var wrongConfigs = []api.Config{
	{}, {Extents: 0, Slots: 2, Log: 24}, {Extents: -1, Slots: 2, Log: 24}, {Extents: 25, Slots: 2, Log: 24}, {Extents: 1<<63 - 1, Slots: 2, Log: 24},
	{Extents: -1 << 63, Slots: 2, Log: 24}, {Extents: 9, Slots: 0, Log: 24}, {Extents: 9, Slots: 9, Log: 24}, {Extents: 9, Slots: 2, Log: 23}, {Extents: 9, Slots: 2, Log: 201},
}

// Numbers that are no extent of the usual volume.
var noExtents = []int{-1, -2, -9, 9, 10, 15, 16, 23, 24, 25, 256, 264, 1 << 32, 1<<32 + 1, -1 << 63, 1<<63 - 1}

// Numbers of extents that no journal has.
var noMany = []int{-1, -2, -24, -255, -256, -1 << 32, -1 << 63, 25, 26, 31, 32, 33, 64, 255, 256, 257, 265, 1000, 1001, 1 << 32, 1<<32 + 9, 1<<63 - 1}

// all is all numbers of a set.
func all(many int) int { return 1<<many - 1 }

// padded is bytes and noughts, 64 together.
func padded(s string) string { return s + strings.Repeat("\x00", 64-len(s)) }

// withTail is bytes and their tail, by the library's sum and not by the program's.
func withTail(s string) string {
	sum := crc32.ChecksumIEEE([]byte(s))
	return s + string([]byte{byte(sum), byte(sum >> 8), byte(sum >> 16), byte(sum >> 24)})
}

// aheadOf is what stands ahead of the tail by the document's words (19.1, 7.3); also of bits that are no number.
func aheadOf(many, marked int) string {
	s := "J" + string([]byte{byte(many)})
	for left := many; left > 0; left -= 8 {
		s += string([]byte{byte(marked)})
		marked >>= 8
	}
	return s
}

// sectorOf is the sector of a set by the document's words; also of such as may not be.
func sectorOf(many, marked int) string { return padded(withTail(aheadOf(many, marked))) }

// setOf is a set.
func setOf(many, marked int) *marks.Set {
	s := marks.New(many)
	for i := range many {
		if marked>>i&1 == 1 {
			s.Add(i)
		}
	}
	return s
}

// markedOf is the numbers of a set.
func markedOf(s *marks.Set) int {
	marked := 0
	for i := range s.All() {
		marked |= 1 << i
	}
	return marked
}

// getByWords is what Get comes to by the document's words.
func getByWords(many int, s string) (int, api.Errno) {
	if len(s) != 64 {
		return 0, api.ErrSize
	}
	if many < 0 || many > 24 || s[0] != 'J' || int(s[1]) != many {
		return 0, api.ErrForm
	}
	marked, width := 0, (many+7)/8
	for i := range width {
		marked |= int(s[2+i]) << (8 * i)
	}
	if withTail(s[:2+width]) != s[:6+width] {
		return 0, api.ErrSum
	}
	if marked > all(many) || s != sectorOf(many, marked) {
		return 0, api.ErrForm
	}
	return marked, api.OK
}

// changed is bytes, with another one at a place.
func changed(s string, at int, b byte) string {
	l := []byte(s)
	l[at] = b
	return string(l)
}

// filler is bytes that a sector has ahead of all tests: no two have the same, and none says a set.
func filler(at int) string { return padded("filler" + string([]byte{byte(at >> 8), byte(at)})) }

// someMarked are sets of so many numbers: none, all, each alone, all but each, each with the next one, and others.
func someMarked(many int) []int {
	l := []int{0, all(many), 0x555555 & all(many), 0xaaaaaa & all(many)}
	for i := range many {
		l = append(l, 1<<i, all(many)&^(1<<i), 3<<i&all(many))
	}
	return l
}

// checkErr sees that an error is the one that is asked for.
func checkErr(t testing.TB, what string, got, want api.Errno) {
	t.Helper()
	if got != want {
		t.Fatalf("%s: error %d, want %d", what, got, want)
	}
}

// checkSet sees that there is a set with an error of OK, and no set with another one.
func checkSet(t testing.TB, what string, got *marks.Set, gotE api.Errno, many, marked int, e api.Errno) {
	t.Helper()
	if gotE != e || (got == nil) != (e != api.OK) {
		t.Fatalf("%s: %v, error %d, want error %d", what, got, gotE, e)
	}
	if e == api.OK && (got.Many() != many || markedOf(got) != marked) {
		t.Fatalf("%s: %b of %d, want %b of %d", what, markedOf(got), got.Many(), marked, many)
	}
}

// checkPut holds Put against what is to come; the set stays as it was.
func checkPut(t testing.TB, s *marks.Set, want string, e api.Errno) {
	t.Helper()
	many, marked := s.Many(), s.Bytes()
	if got, gotE := Put(s); got != want || gotE != e {
		t.Fatalf("Put of %q of %d = %q, %d, want %q, %d", marked, many, got, gotE, want, e)
	}
	if s.Many() != many || s.Bytes() != marked {
		t.Fatalf("Put of %q of %d: it is %q of %d then", marked, many, s.Bytes(), s.Many())
	}
}

// checkGet holds Get against what is to come.
func checkGet(t testing.TB, many int, s string, marked int, e api.Errno) {
	t.Helper()
	got, gotE := Get(many, s)
	checkSet(t, "Get", got, gotE, many, marked, e)
}

// checkGetByWords holds Get against the document's words.
func checkGetByWords(t testing.TB, many int, s string) {
	t.Helper()
	marked, e := getByWords(many, s)
	checkGet(t, many, s, marked, e)
}

// checkLoad holds Load against what is to come.
func checkLoad(t testing.TB, w *wal.Wal, c api.Config, marked int, e api.Errno) {
	t.Helper()
	got, gotE := Load(w, c)
	checkSet(t, "Load", got, gotE, c.Extents, marked, e)
}

// opened is the wal of a volume's disk.
func opened(t testing.TB, d *disk.Disk, c api.Config) *wal.Wal {
	t.Helper()
	w, e := wal.Open(d, layout.Log(c), c.Log)
	checkErr(t, "Open", e, api.OK)
	return w
}

// fresh is a disk of a volume, all of whose sectors have bytes but those of an empty log, and its wal. It has no journal.
func fresh(t testing.TB, c api.Config) (*disk.Disk, *wal.Wal) {
	t.Helper()
	d := disk.New(layout.Sectors(c))
	for at := range d.Sectors() {
		checkErr(t, "Write", d.Write(at, filler(at)), api.OK)
	}
	checkErr(t, "Format", wal.Format(d, layout.Log(c), c.Log), api.OK)
	return d, opened(t, d, c)
}

// laid is a fresh volume whose journal's sector has bytes, for sure.
func laid(t testing.TB, c api.Config, s string) (*disk.Disk, *wal.Wal) {
	t.Helper()
	d, w := fresh(t, c)
	checkErr(t, "Write", d.Write(1, s), api.OK)
	checkErr(t, "Flush", d.Flush(), api.OK)
	return d, w
}

// full is a fresh volume that has a journal, laid down by the document's words.
func full(t testing.TB, c api.Config, marked int) (*disk.Disk, *wal.Wal) {
	t.Helper()
	return laid(t, c, sectorOf(c.Extents, marked))
}

// begun is a volume like that, with a transaction.
func begun(t testing.TB, c api.Config, marked int) (*disk.Disk, *wal.Wal) {
	t.Helper()
	d, w := full(t, c, marked)
	checkErr(t, "Begin", w.Begin(), api.OK)
	return d, w
}

// down lets a disk be down.
func down(d *disk.Disk) {
	d.DownAt(d.Ops() + 1)
	d.Read(0)
}

// seen is what is seen in all sectors but the log's.
func seen(t testing.TB, w *wal.Wal, c api.Config) []string {
	t.Helper()
	var l []string
	for at := range layout.Log(c) {
		s, e := w.Read(at)
		checkErr(t, "Read", e, api.OK)
		l = append(l, s)
	}
	return l
}

// checkSeen sees that all sectors but the log's are seen as they have to be.
func checkSeen(t testing.TB, w *wal.Wal, c api.Config, want []string) {
	t.Helper()
	for at, s := range seen(t, w, c) {
		if s != want[at] {
			t.Fatalf("%v: sector %d: %q, want %q", c, at, s, want[at])
		}
	}
}

// with is sectors of which the journal's has a set.
func with(were []string, many, marked int) []string {
	l := slices.Clone(were)
	l[1] = sectorOf(many, marked)
	return l
}

// stageOthers stages so many sectors that are not the journal's, the last ones ahead of the log.
func stageOthers(t testing.TB, w *wal.Wal, c api.Config, many int) {
	t.Helper()
	for i := range many {
		at := layout.Log(c) - 1 - i
		checkErr(t, "Stage", w.Stage(at, filler(1000+at)), api.OK)
	}
}

// checkStaged sees how many sectors a transaction has staged, and ends it: just so many others have room.
func checkStaged(t testing.TB, w *wal.Wal, c api.Config, many int) {
	t.Helper()
	stageOthers(t, w, c, 16-many)
	checkErr(t, "Stage of one more", w.Stage(0, filler(0)), api.ErrFull)
	w.Abort()
}

// eachConfig goes through volumes of each number of extents, with enough sectors that are not the journal's.
func eachConfig(do func(c api.Config)) {
	for extents := 1; extents <= 24; extents++ {
		do(api.Config{Extents: extents, Slots: 8 - extents%4, Log: 24 + extents})
	}
}
