package table

import (
	"hash/crc32"
	"slices"
	"strings"
	"testing"

	"solder/api"
	"solder/disk"
	"solder/layout"
	"solder/wal"
)

// blank is a sector of two entries of no changes, without slots, that is known.
var blank = padded("E" + strings.Repeat("\x00", 30) + "\xe7\xdf\x69\x53")

// usual is the volume of most tests: its last entry is alone in its sector.
var usual = api.Config{Extents: 5, Slots: 2, Log: 24}

// Entries that may be, at each edge, and between: also of slots that no volume has of most tests.
var right = []api.Entry{
	made(0, 0, -1), made(0, 0, 0), made(0, 0, 7), made(3, 1, 2), made(1, 3, -1), made(1<<24+1, 0, 6),
	made(0, 5<<24+1, 1), made(1<<50, 0, 7), made(0, 1<<50, -1), made(1<<50, 1<<50, 7), made(1<<50-1, 1<<49, 3),
}

// Entries that may not be.
var wrong = []api.Entry{
	made(-1, 0, 0), made(0, -1, 0), made(1<<50+1, 0, 0), made(0, 1<<50+1, 0), made(0, 0, -2), made(0, 0, 8), made(0, 0, 255),
	made(1<<56, 0, 0), made(0, 1<<56, 0), made(0, 0, 256), made(0, 0, -257), made(-1<<63, 1<<63-1, -1), made(-1, -1, 9),
}

// Volumes that may not be.
var wrongConfigs = []api.Config{
	{}, {Extents: 0, Slots: 2, Log: 24}, {Extents: -1, Slots: 2, Log: 24}, {Extents: 25, Slots: 2, Log: 24}, {Extents: 1<<63 - 1, Slots: 2, Log: 24},
	{Extents: -1 << 63, Slots: 2, Log: 24}, {Extents: 5, Slots: 0, Log: 24}, {Extents: 5, Slots: 9, Log: 24}, {Extents: 5, Slots: 2, Log: 23}, {Extents: 5, Slots: 2, Log: 201},
}

// Numbers that are no extent of the usual volume.
var noExtents = []int{-1, -2, -5, 5, 6, 7, 24, 25, 256, 1 << 32, 1<<32 + 1, -1 << 63, 1<<63 - 1}

// made is an entry, by its numbers.
func made(a, b, slot int) api.Entry {
	return api.Entry{V: api.Vector{A: a, B: b}, Slot: slot}
}

// padded is bytes and noughts, 64 together.
func padded(s string) string { return s + strings.Repeat("\x00", 64-len(s)) }

// bytesOf is a number as so many bytes, the highest ahead.
func bytesOf(n, size int) string {
	b := make([]byte, size)
	for i := range b {
		b[size-1-i] = byte(n >> (8 * i))
	}
	return string(b)
}

// numberOf is the number that bytes stand for.
func numberOf(s string) int {
	n := 0
	for i := range len(s) {
		n = n*256 + int(s[i])
	}
	return n
}

// withTail is bytes and their tail, by the library's sum and not by the program's.
func withTail(s string) string {
	sum := crc32.ChecksumIEEE([]byte(s))
	return s + string([]byte{byte(sum), byte(sum >> 8), byte(sum >> 16), byte(sum >> 24)})
}

// sectorOf is the sector of two entries by the document's words (17.1); also of such as may not be.
func sectorOf(x, y api.Entry) string {
	s := "E"
	for _, one := range []api.Entry{x, y} {
		s += bytesOf(one.V.A, 7) + bytesOf(one.V.B, 7) + bytesOf(one.Slot+1, 1)
	}
	return padded(withTail(s))
}

// mayBe tells whether an entry may be, by the document's words (17.1).
func mayBe(x api.Entry) bool {
	const most = 1125899906842624
	return x.V.A >= 0 && x.V.A <= most && x.V.B >= 0 && x.V.B <= most && x.Slot >= -1 && x.Slot <= 7
}

// entriesOf is what a sector says by the document's words (17.1), and whether it says entries.
func entriesOf(s string) ([2]api.Entry, bool) {
	x := made(numberOf(s[1:8]), numberOf(s[8:15]), numberOf(s[15:16])-1)
	y := made(numberOf(s[16:23]), numberOf(s[23:30]), numberOf(s[30:31])-1)
	if !mayBe(x) || !mayBe(y) || sectorOf(x, y) != s {
		return [2]api.Entry{}, false
	}
	return [2]api.Entry{x, y}, true
}

// changed is bytes, with another one at a place.
func changed(s string, at int, b byte) string {
	l := []byte(s)
	l[at] = b
	return string(l)
}

// filler is bytes that a sector has ahead of all tests: no two have the same, and none says entries.
func filler(at int) string { return padded("filler" + bytesOf(at, 4)) }

// checkErr sees that an error is the one that is asked for.
func checkErr(t testing.TB, what string, got, want api.Errno) {
	t.Helper()
	if got != want {
		t.Fatalf("%s: error %d, want %d", what, got, want)
	}
}

// opened is the wal of a volume's disk.
func opened(t testing.TB, d *disk.Disk, c api.Config) *wal.Wal {
	t.Helper()
	w, e := wal.Open(d, layout.Log(c), c.Log)
	checkErr(t, "Open", e, api.OK)
	return w
}

// fresh is a disk of a volume, all of whose sectors have bytes but those of an empty log, its wal, and its table.
func fresh(t testing.TB, c api.Config) (*disk.Disk, *wal.Wal, *Table) {
	t.Helper()
	d := disk.New(layout.Sectors(c))
	for at := range d.Sectors() {
		checkErr(t, "Write", d.Write(at, filler(at)), api.OK)
	}
	checkErr(t, "Format", wal.Format(d, layout.Log(c), c.Log), api.OK)
	w := opened(t, d, c)
	return d, w, New(w, c)
}

// nth is an entry that may be, another one of each number.
func nth(i int) api.Entry { return made(100+3*i, 1<<40+7*i, i%9-1) }

// full is a fresh volume whose table has the entries nth(0), nth(1) and so on, laid down by the document's words.
func full(t testing.TB, c api.Config) (*disk.Disk, *wal.Wal, *Table) {
	t.Helper()
	d, w, x := fresh(t, c)
	for first := 0; first < c.Extents; first += 2 {
		checkErr(t, "Write", d.Write(2+first/2, sectorOf(nth(first), nth(first+1))), api.OK)
	}
	checkErr(t, "Flush", d.Flush(), api.OK)
	return d, w, x
}

// nths are the first entries of nth.
func nths(many int) []api.Entry {
	l := make([]api.Entry, many)
	for i := range l {
		l[i] = nth(i)
	}
	return l
}

// seen is what is seen in all sectors but the log's.
func seen(t testing.TB, w *wal.Wal, c api.Config) []string {
	t.Helper()
	var l []string
	for at := range layout.Log(c) {
		s, e := w.Read(at)
		checkErr(t, "Read", e, api.OK)
		l = append(l, s)
	}
	return l
}

// checkSeen sees that all sectors but the log's are seen as they have to be.
func checkSeen(t testing.TB, w *wal.Wal, c api.Config, want []string) {
	t.Helper()
	for at, s := range seen(t, w, c) {
		if s != want[at] {
			t.Fatalf("%v: sector %d: %q, want %q", c, at, s, want[at])
		}
	}
}

// checkGet holds Get against what is to come.
func checkGet(t testing.TB, x *Table, extent int, want api.Entry, e api.Errno) {
	t.Helper()
	if got, gotE := x.Get(extent); got != want || gotE != e {
		t.Fatalf("Get(%d) = %v, %d, want %v, %d", extent, got, gotE, want, e)
	}
}

// checkAll holds All, and Get of each extent, against what is to come.
func checkAll(t testing.TB, x *Table, want []api.Entry) {
	t.Helper()
	got, e := x.All()
	if e != api.OK || !slices.Equal(got, want) {
		t.Fatalf("All = %v, %d, want %v", got, e, want)
	}
	for extent, one := range want {
		checkGet(t, x, extent, one, api.OK)
	}
}

// checkNone sees that All has an error, and nothing beside it.
func checkNone(t testing.TB, x *Table, e api.Errno) {
	t.Helper()
	if got, gotE := x.All(); len(got) != 0 || gotE != e {
		t.Fatalf("All = %v, %d, want none, %d", got, gotE, e)
	}
}

// stageOthers stages so many sectors that are none of the table's, the last ones ahead of the log.
func stageOthers(t testing.TB, w *wal.Wal, c api.Config, many int) {
	t.Helper()
	for i := range many {
		at := layout.Log(c) - 1 - i
		checkErr(t, "Stage", w.Stage(at, padded("other"+bytesOf(at, 4))), api.OK)
	}
}

// eachConfig goes through volumes of each number of extents, with enough sectors that are none of the table's.
func eachConfig(do func(c api.Config)) {
	for extents := 1; extents <= 24; extents++ {
		do(api.Config{Extents: extents, Slots: 8 - extents%4, Log: 24 + extents})
	}
}
