package extent

import (
	"slices"
	"strings"
	"testing"

	"solder/api"
	"solder/disk"
	"solder/layout"
	"solder/wal"
)

// usual is the volume of most tests: its extents are the sectors 7 to 24, its slots 25 to 34, and its log 35 to 58.
var usual = api.Config{Extents: 9, Slots: 2, Log: 24}

// Where the usual volume's parts are, by the document's words.
const (
	firstOfExtents = 7
	firstOfLog     = 35
	allSectors     = 59
)

// Volumes that may not be.
var wrongConfigs = []api.Config{
	{}, {Extents: 0, Slots: 2, Log: 24}, {Extents: -1, Slots: 2, Log: 24}, {Extents: 25, Slots: 2, Log: 24}, {Extents: 1<<63 - 1, Slots: 2, Log: 24},
	{Extents: -1 << 63, Slots: 2, Log: 24}, {Extents: 9, Slots: 0, Log: 24}, {Extents: 9, Slots: 9, Log: 24}, {Extents: 9, Slots: 2, Log: 23}, {Extents: 9, Slots: 2, Log: 201},
}

// Numbers that are no extent of any volume, and no sector of any disk.
var farNumbers = []int{-1, -2, -9, 1000, 1 << 31, 1 << 32, 1<<32 + 1, -1 << 32, 1<<63 - 1, 1<<63 - 2, 1<<63 - 17, -1 << 63, -1<<63 + 1}

// Lengths of what is not 1 to 16 whole sectors.
var wrongLengths = []int{0, 1, 2, 32, 63, 65, 66, 96, 127, 129, 191, 193, 960 + 1, 1023, 1025, 17*64 - 1, 17 * 64, 18 * 64, 32 * 64, 256 * 64, 65536}

// placeOf is an extent's first sector, by the document's words (15): the super sector, the journal, a sector of the table for each two extents, and two sectors an extent.
func placeOf(c api.Config, extent int) int { return 2 + (c.Extents+1)/2 + 2*extent }

// padded is bytes and noughts, 64 together.
func padded(s string) string { return s + strings.Repeat("\x00", 64-len(s)) }

// filler is bytes that a sector has ahead of all tests: no two have the same.
func filler(at int) string { return padded("filler" + string([]byte{byte(at >> 8), byte(at)})) }

// bytesOf is so many bytes, others of each number, no two sectors of which are alike.
func bytesOf(number, length int) string {
	var b strings.Builder
	for i := 0; b.Len() < length; i++ {
		b.WriteString(string([]byte{'b', byte(number >> 8), byte(number), byte(i)}))
	}
	return b.String()[:length]
}

// sectorsOf is so many whole sectors, others of each number.
func sectorsOf(number, many int) string { return bytesOf(number, 64*many) }

// checkErr sees that an error is the one that is asked for.
func checkErr(t testing.TB, what string, got, want api.Errno) {
	t.Helper()
	if got != want {
		t.Fatalf("%s: error %d, want %d", what, got, want)
	}
}

// checkLoad holds Load against what is to come.
func checkLoad(t testing.TB, w *wal.Wal, at, many int, want string, e api.Errno) {
	t.Helper()
	if got, gotE := Load(w, at, many); got != want || gotE != e {
		t.Fatalf("Load of %d from %d = %q, %d, want %q, %d", many, at, got, gotE, want, e)
	}
}

// checkRead holds Read against what is to come.
func checkRead(t testing.TB, w *wal.Wal, c api.Config, extent int, want string, e api.Errno) {
	t.Helper()
	if got, gotE := Read(w, c, extent); got != want || gotE != e {
		t.Fatalf("Read of %d of %v = %q, %d, want %q, %d", extent, c, got, gotE, want, e)
	}
}

// opened is the wal of a volume's disk.
func opened(t testing.TB, d *disk.Disk, c api.Config) *wal.Wal {
	t.Helper()
	w, e := wal.Open(d, layout.Log(c), c.Log)
	checkErr(t, "Open", e, api.OK)
	return w
}

// filled is a disk all of whose sectors have bytes, for sure, but those of an empty log.
func filled(t testing.TB, sectors, from, many int) *disk.Disk {
	t.Helper()
	d := disk.New(sectors)
	for at := range sectors {
		checkErr(t, "Write", d.Write(at, filler(at)), api.OK)
	}
	checkErr(t, "Format", wal.Format(d, from, many), api.OK)
	return d
}

// fresh is a volume's disk that is filled, and its wal.
func fresh(t testing.TB, c api.Config) (*disk.Disk, *wal.Wal) {
	t.Helper()
	d := filled(t, layout.Sectors(c), layout.Log(c), c.Log)
	return d, opened(t, d, c)
}

// begun is a volume like that, with a transaction.
func begun(t testing.TB, c api.Config) (*disk.Disk, *wal.Wal) {
	t.Helper()
	d, w := fresh(t, c)
	checkErr(t, "Begin", w.Begin(), api.OK)
	return d, w
}

// down lets a disk be down.
func down(d *disk.Disk) {
	d.DownAt(d.Ops() + 1)
	d.Read(0)
}

// seen is what is seen in so many sectors.
func seen(t testing.TB, w *wal.Wal, sectors int) []string {
	t.Helper()
	var l []string
	for at := range sectors {
		s, e := w.Read(at)
		checkErr(t, "Read", e, api.OK)
		l = append(l, s)
	}
	return l
}

// checkSeen sees that sectors are seen as they have to be.
func checkSeen(t testing.TB, w *wal.Wal, want []string) {
	t.Helper()
	for at, s := range seen(t, w, len(want)) {
		if s != want[at] {
			t.Fatalf("sector %d: %q, want %q", at, s, want[at])
		}
	}
}

// with is sectors, of which some, from one on, have other bytes.
func with(were []string, at int, data string) []string {
	l := slices.Clone(were)
	for ; data != ""; at, data = at+1, data[64:] {
		l[at] = data[:64]
	}
	return l
}

// stageOthers stages so many sectors that are none of extents, from the last slot's last one on downwards, and then from the sector 6 on.
func stageOthers(t testing.TB, w *wal.Wal, many int) {
	t.Helper()
	for i := range many {
		at := firstOfLog - 1 - i
		if i >= 10 {
			at = 16 - i
		}
		checkErr(t, "Stage", w.Stage(at, filler(1000+at)), api.OK)
	}
}

// checkStaged sees how many sectors a usual volume's transaction has, and ends it: just so many others have room.
func checkStaged(t testing.TB, w *wal.Wal, many int) {
	t.Helper()
	stageOthers(t, w, 16-many)
	if many == 0 {
		checkErr(t, "Stage of one more", w.Stage(firstOfExtents, filler(0)), api.ErrFull)
	} else {
		checkErr(t, "Stage of one more", w.Stage(0, filler(0)), api.ErrFull)
	}
	w.Abort()
}

// eachConfig goes through volumes of each number of extents.
func eachConfig(do func(c api.Config)) {
	for extents := 1; extents <= 24; extents++ {
		do(api.Config{Extents: extents, Slots: 1 + extents%8, Log: 24 + extents})
	}
}
