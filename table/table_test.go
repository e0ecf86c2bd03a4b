package table

import (
	"slices"
	"strings"
	"testing"

	"solder/api"
	"solder/disk"
	"solder/wal"
)

// withBlanks is what is seen, once the table is formatted.
func withBlanks(were []string, c api.Config) []string {
	l := slices.Clone(were)
	for first := 0; first < c.Extents; first += 2 {
		l[2+first/2] = blank
	}
	return l
}

// unchanged are so many entries of no changes.
func unchanged(many int) []api.Entry {
	return slices.Repeat([]api.Entry{made(0, 0, -1)}, many)
}

// volumes are both kinds of volumes: without a table, and with one.
func volumes() []func(testing.TB, api.Config) (*disk.Disk, *wal.Wal, *Table) {
	return []func(testing.TB, api.Config) (*disk.Disk, *wal.Wal, *Table){fresh, full}
}

// 18.1: each of the table's sectors is staged, and no other one, of each number of extents, whatever was there; what is aborted is not.
func TestFormat(t *testing.T) {
	eachConfig(func(c api.Config) {
		for _, volume := range volumes() {
			d, w, x := volume(t, c)
			were := seen(t, w, c)
			checkErr(t, "Begin", w.Begin(), api.OK)
			checkErr(t, "Format", x.Format(), api.OK)
			checkSeen(t, w, c, withBlanks(were, c))
			checkAll(t, x, unchanged(c.Extents))
			w.Abort()
			checkSeen(t, w, c, were)
			checkErr(t, "Begin", w.Begin(), api.OK)
			checkErr(t, "Format", x.Format(), api.OK)
			checkErr(t, "Commit", w.Commit(), api.OK)
			checkErr(t, "Flush", w.Flush(), api.OK)
			d.Restart(nil)
			w = opened(t, d, c)
			checkSeen(t, w, c, withBlanks(were, c))
			checkAll(t, New(w, c), unchanged(c.Extents))
		}
	})
}

// 18.1: also over what the transaction has staged already, and twice.
func TestFormatAgain(t *testing.T) {
	_, w, x := full(t, usual)
	were := seen(t, w, usual)
	checkErr(t, "Begin", w.Begin(), api.OK)
	checkErr(t, "Put", x.Put(1, made(3, 1, 2)), api.OK)
	checkErr(t, "Stage", w.Stage(4, filler(4)), api.OK)
	for range 2 {
		checkErr(t, "Format", x.Format(), api.OK)
		checkSeen(t, w, usual, withBlanks(were, usual))
		checkErr(t, "Put", x.Put(4, made(3, 1, 2)), api.OK)
	}
	checkAll(t, x, append(unchanged(4), made(3, 1, 2)))
}

// 18.1: layout's Check comes ahead of the wal's error.
func TestFormatConfig(t *testing.T) {
	for _, c := range wrongConfigs {
		_, w, _ := full(t, usual)
		were := seen(t, w, usual)
		checkErr(t, "Format without a wal", New(nil, c).Format(), api.ErrRange)
		checkErr(t, "Format without a transaction", New(w, c).Format(), api.ErrRange)
		checkErr(t, "Begin", w.Begin(), api.OK)
		checkErr(t, "Format", New(w, c).Format(), api.ErrRange)
		checkSeen(t, w, usual, were)
	}
}

// 18.1: without a transaction, or a wal, nothing is formatted.
func TestFormatState(t *testing.T) {
	checkErr(t, "Format without a wal", New(nil, usual).Format(), api.ErrState)
	checkErr(t, "Format at no log", New(&wal.Wal{}, usual).Format(), api.ErrState)
	d, w, x := full(t, usual)
	checkErr(t, "Format", x.Format(), api.ErrState)
	checkAll(t, x, nths(5))
	checkErr(t, "Begin", w.Begin(), api.OK)
	checkErr(t, "Commit", w.Commit(), api.OK)
	checkErr(t, "Format behind a transaction", x.Format(), api.ErrState)
	checkAll(t, x, nths(5))
	d.DownAt(d.Ops() + 1)
	d.Read(0)
	checkErr(t, "Format where the disk is down", x.Format(), api.ErrState)
}

// 18.1: with more other sectors than leave room the wal has an error, and all is seen as it was; with just as many there is room.
func TestFormatFull(t *testing.T) {
	eachConfig(func(c api.Config) {
		sectors := (c.Extents + 1) / 2
		for others := 0; others <= 16; others++ {
			_, w, x := full(t, c)
			checkErr(t, "Begin", w.Begin(), api.OK)
			stageOthers(t, w, c, others)
			checkFormat(t, w, x, c, others+sectors <= 16)
			w.Abort()
			checkAll(t, x, nths(c.Extents))
		}
	})
}

// checkFormat formats, and sees what is seen then: blanks, if there is room, else what was.
func checkFormat(t *testing.T, w *wal.Wal, x *Table, c api.Config, room bool) {
	t.Helper()
	were := seen(t, w, c)
	if room {
		checkErr(t, "Format", x.Format(), api.OK)
		checkSeen(t, w, c, withBlanks(were, c))
	} else {
		checkErr(t, "Format", x.Format(), api.ErrFull)
		checkSeen(t, w, c, were)
	}
}

// 18.1: those of the table's sectors that the transaction has already count once; and what is staged there is seen again, if there is no room.
func TestFormatFullStaged(t *testing.T) {
	c := api.Config{Extents: 24, Slots: 8, Log: 24}
	for others := range 17 {
		for extents := range 25 {
			_, w, x := full(t, c)
			checkErr(t, "Begin", w.Begin(), api.OK)
			stageOthers(t, w, c, others)
			have := 0
			for i := range extents {
				// Far ones first, so that the first sectors are not all staged when there is no room.
				extent := i * 7 % 24
				want := api.OK
				if before := seen(t, w, c)[2+extent/2]; before == sectorOf(nth(extent&^1), nth(extent|1)) {
					have++
					if others+have > 16 {
						want, have = api.ErrFull, have-1
					}
				}
				checkErr(t, "Put", x.Put(extent, made(i, i, 3)), want)
			}
			checkFormat(t, w, x, c, others+12 <= 16)
		}
	}
}

// 18.1: where the table's sectors are the log's, from one of them on, the wal has an error, and all is seen as it was.
func TestFormatInLog(t *testing.T) {
	c := api.Config{Extents: 24, Slots: 1, Log: 24}
	for from := range 13 {
		d := disk.New(50)
		for at := range 50 {
			checkErr(t, "Write", d.Write(at, filler(at)), api.OK)
		}
		checkErr(t, "Format", wal.Format(d, from, 24), api.OK)
		w, e := wal.Open(d, from, 24)
		checkErr(t, "Open", e, api.OK)
		checkErr(t, "Begin", w.Begin(), api.OK)
		checkErr(t, "Format", New(w, c).Format(), api.ErrRange)
		for at := range from {
			if s, e := w.Read(at); s != filler(at) || e != api.OK {
				t.Errorf("a log from %d: sector %d: %q, error %d", from, at, s, e)
			}
		}
	}
}

// 18.1: staging needs no disk: where it fails, or is down, the table is formatted.
func TestFormatDisk(t *testing.T) {
	for k := 1; k <= 6; k++ {
		d, w, x := full(t, usual)
		were := seen(t, w, usual)
		checkErr(t, "Begin", w.Begin(), api.OK)
		d.Fail(d.Ops() + k)
		checkErr(t, "Format", x.Format(), api.OK)
		for range 6 {
			d.Read(0)
		}
		checkSeen(t, w, usual, withBlanks(were, usual))
		w.Abort()
		checkErr(t, "Begin", w.Begin(), api.OK)
		d.DownAt(d.Ops() + k)
		checkErr(t, "Format", x.Format(), api.OK)
		checkAll(t, x, unchanged(5))
	}
}

// 18.1: if there is no room, and the disk can't be read either, the wal's error of staging is told.
func TestFormatFullDown(t *testing.T) {
	for k := 1; k <= 6; k++ {
		d, w, x := full(t, usual)
		checkErr(t, "Begin", w.Begin(), api.OK)
		stageOthers(t, w, usual, 14)
		d.DownAt(d.Ops() + k)
		checkErr(t, "Format", x.Format(), api.ErrFull)
		d.Restart(nil)
		checkAll(t, New(opened(t, d, usual), usual), nths(5))
	}
}

// 18.1: each extent's entry is its own one, of each number of extents.
func TestGet(t *testing.T) {
	eachConfig(func(c api.Config) {
		_, w, x := full(t, c)
		were := seen(t, w, c)
		checkAll(t, x, nths(c.Extents))
		checkGet(t, x, c.Extents, api.Entry{}, api.ErrRange)
		checkGet(t, x, -1, api.Entry{}, api.ErrRange)
		checkSeen(t, w, c, were)
	})
}

// 18.1: layout's error comes ahead of the wal's, and of what the sector says.
func TestGetRange(t *testing.T) {
	d, w, x := full(t, usual)
	_, _, corrupt := fresh(t, usual)
	for _, extent := range noExtents {
		checkGet(t, x, extent, api.Entry{}, api.ErrRange)
		checkGet(t, corrupt, extent, api.Entry{}, api.ErrRange)
		checkGet(t, New(nil, usual), extent, api.Entry{}, api.ErrRange)
	}
	d.DownAt(d.Ops() + 1)
	d.Read(0)
	checkGet(t, x, 5, api.Entry{}, api.ErrRange)
	for _, c := range wrongConfigs {
		for extent := -1; extent <= 26; extent++ {
			checkGet(t, New(w, c), extent, api.Entry{}, api.ErrRange)
			checkGet(t, New(nil, c), extent, api.Entry{}, api.ErrRange)
		}
	}
}

// 18.1: the errors of reading, each as it is, whatever the sector says; what is seen over the disk is read without it.
func TestGetRead(t *testing.T) {
	checkGet(t, New(nil, usual), 0, api.Entry{}, api.ErrState)
	checkGet(t, New(&wal.Wal{}, usual), 4, api.Entry{}, api.ErrState)
	for _, volume := range volumes() {
		for extent := range 5 {
			d, w, x := volume(t, usual)
			d.Fail(d.Ops() + 1)
			checkGet(t, x, extent, api.Entry{}, api.ErrIO)
			d.DownAt(d.Ops() + 1)
			checkGet(t, x, extent, api.Entry{}, api.ErrDown)
			checkGet(t, x, extent, api.Entry{}, api.ErrDown)
			checkErr(t, "Begin", w.Begin(), api.OK)
			checkErr(t, "Stage", w.Stage(2+extent/2, sectorOf(nth(7), nth(8))), api.OK)
			checkGet(t, x, extent, nth(7+extent%2), api.OK)
		}
	}
}

// 18.1: a sector that says no entries is corrupt for each extent that has its entry there, and for no other one.
func TestGetCorrupt(t *testing.T) {
	whole := sectorOf(nth(2), nth(3))
	bad := []string{padded(""), strings.Repeat("\xff", 64), strings.Repeat("E", 64), whole[1:] + "\x00"}
	for at := range 64 {
		bad = append(bad, changed(whole, at, whole[at]^1), changed(whole, at, whole[at]^128))
	}
	for _, x := range []api.Entry{made(1<<50+1, 0, 0), made(0, 1<<50+1, 0), made(0, 0, 8), made(0, 0, 254)} {
		bad = append(bad, sectorOf(x, nth(3)), sectorOf(nth(2), x), sectorOf(x, x))
	}
	_, w, x := full(t, usual)
	for _, s := range bad {
		for sector := range 3 {
			checkErr(t, "Begin", w.Begin(), api.OK)
			checkErr(t, "Stage", w.Stage(2+sector, s), api.OK)
			for extent := range 5 {
				if extent/2 == sector {
					checkGet(t, x, extent, api.Entry{}, api.ErrCorrupt)
				} else {
					checkGet(t, x, extent, nth(extent), api.OK)
				}
			}
			checkNone(t, x, api.ErrCorrupt)
			w.Abort()
		}
	}
}

// 18.1: the entry is put in the extent's place, and nothing else is changed; also a slot that the volume has not, as entry's Check lets it be.
func TestPut(t *testing.T) {
	eachConfig(func(c api.Config) {
		_, w, x := full(t, c)
		were := seen(t, w, c)
		for extent := range c.Extents {
			want, entries := slices.Clone(were), nths(c.Extents)
			for _, one := range right {
				checkErr(t, "Begin", w.Begin(), api.OK)
				checkErr(t, "Put", x.Put(extent, one), api.OK)
				pair := [2]api.Entry{nth(extent &^ 1), nth(extent | 1)}
				pair[extent%2] = one
				want[2+extent/2], entries[extent] = sectorOf(pair[0], pair[1]), one
				checkSeen(t, w, c, want)
				checkAll(t, x, entries)
				w.Abort()
				checkSeen(t, w, c, were)
			}
		}
	})
}

// 18.1: the chapter's example.
func TestExample(t *testing.T) {
	_, w, x := committed(t, usual, nil)
	checkErr(t, "Begin", w.Begin(), api.OK)
	checkErr(t, "Put", x.Put(1, made(3, 1, 0)), api.OK)
	checkGet(t, x, 1, made(3, 1, 0), api.OK)
	checkGet(t, x, 0, made(0, 0, -1), api.OK)
}

// fault is something that is wrong with a Put, and the error by which it is told.
type fault struct {
	name string
	e    api.Errno
}

// The faults of a Put in the order in which the chapter names them. The sector that can't be read, or is corrupt, is that of the extents 2 and 3.
var faults = []fault{
	{"config", api.ErrRange},
	{"extent", api.ErrRange},
	{"entry", api.ErrRange},
	{"reading", api.ErrIO},
	{"corrupt", api.ErrCorrupt},
	{"state", api.ErrState},
	{"full", api.ErrFull},
}

// 18.1: of several errors of Put the one that is named first is told, and nothing is changed.
func TestPutFaults(t *testing.T) {
	for mask := range 1 << len(faults) {
		has := func(name string) bool {
			i := slices.IndexFunc(faults, func(f fault) bool { return f.name == name })
			return mask&(1<<i) != 0
		}
		want := api.OK
		for i, f := range faults {
			if mask&(1<<i) != 0 {
				want = f.e
				break
			}
		}
		if has("state") && has("full") {
			continue // without a transaction no sectors are staged
		}
		checkFaults(t, has, want)
	}
}

// checkFaults puts an entry with faults.
func checkFaults(t *testing.T, has func(name string) bool, want api.Errno) {
	t.Helper()
	d, w, x := full(t, usual)
	if has("corrupt") {
		checkErr(t, "Write", d.Write(3, filler(3)), api.OK)
	}
	extent, one := 3, made(5, 6, 1)
	if has("config") {
		x = New(w, api.Config{Extents: 5, Slots: 2, Log: 23})
	}
	if has("extent") {
		extent = 5
	}
	if has("entry") {
		one = made(5, 6, 8)
	}
	if !has("state") {
		checkErr(t, "Begin", w.Begin(), api.OK)
	}
	if has("full") {
		stageOthers(t, w, usual, 16)
	}
	were := seen(t, w, usual)
	if has("reading") {
		d.Fail(d.Ops() + 1)
	}
	checkErr(t, "Put", x.Put(extent, one), want)
	d.Read(0)
	if want == api.OK {
		were[3] = sectorOf(nth(2), one)
	}
	checkSeen(t, w, usual, were)
}

// 18.1: layout's errors of Put, of each extent that is none, and of each volume that may not be.
func TestPutRange(t *testing.T) {
	_, w, x := full(t, usual)
	were := seen(t, w, usual)
	checkErr(t, "Begin", w.Begin(), api.OK)
	for _, extent := range noExtents {
		checkErr(t, "Put", x.Put(extent, nth(9)), api.ErrRange)
		checkErr(t, "Put without a wal", New(nil, usual).Put(extent, nth(9)), api.ErrRange)
	}
	for _, c := range wrongConfigs {
		for extent := -1; extent <= 26; extent++ {
			checkErr(t, "Put", New(w, c).Put(extent, nth(9)), api.ErrRange)
			checkErr(t, "Put without a wal", New(nil, c).Put(extent, nth(9)), api.ErrRange)
		}
	}
	checkSeen(t, w, usual, were)
}

// 18.1: what may not be is put nowhere, also where there is no wal or the sector is corrupt.
func TestPutWrong(t *testing.T) {
	_, w, x := full(t, usual)
	_, _, corrupt := fresh(t, usual)
	were := seen(t, w, usual)
	checkErr(t, "Begin", w.Begin(), api.OK)
	for _, one := range wrong {
		for extent := range 5 {
			checkErr(t, "Put", x.Put(extent, one), api.ErrRange)
			checkErr(t, "Put", corrupt.Put(extent, one), api.ErrRange)
			checkErr(t, "Put without a wal", New(nil, usual).Put(extent, one), api.ErrRange)
		}
	}
	checkSeen(t, w, usual, were)
}

// 18.1: the errors of reading and staging of Put, each as it is.
func TestPutRead(t *testing.T) {
	checkErr(t, "Put without a wal", New(nil, usual).Put(0, nth(9)), api.ErrState)
	checkErr(t, "Put at no log", New(&wal.Wal{}, usual).Put(0, nth(9)), api.ErrState)
	d, w, x := full(t, usual)
	checkErr(t, "Begin", w.Begin(), api.OK)
	checkErr(t, "Put", x.Put(1, nth(9)), api.OK)
	d.DownAt(d.Ops() + 1)
	checkErr(t, "Put", x.Put(2, nth(9)), api.ErrDown)
	checkErr(t, "Put", x.Put(3, nth(9)), api.ErrDown)
	checkErr(t, "Put over what is staged", x.Put(0, nth(9)), api.OK)
	checkGet(t, x, 0, nth(9), api.OK)
	checkGet(t, x, 1, nth(9), api.OK)
}

// 18.1: of as many sectors as a transaction may have, one that it has already can be put again.
func TestPutFull(t *testing.T) {
	_, w, x := full(t, usual)
	checkErr(t, "Begin", w.Begin(), api.OK)
	checkErr(t, "Put", x.Put(1, nth(9)), api.OK)
	stageOthers(t, w, usual, 15)
	checkErr(t, "Put", x.Put(2, nth(9)), api.ErrFull)
	checkErr(t, "Put", x.Put(4, nth(9)), api.ErrFull)
	checkErr(t, "Put", x.Put(0, nth(10)), api.OK)
	checkErr(t, "Put", x.Put(1, nth(11)), api.OK)
	checkAll(t, x, []api.Entry{nth(10), nth(11), nth(2), nth(3), nth(4)})
}

// 18.1: layout's Check comes first; of several errors of extents that of the first one is told.
func TestAllFirst(t *testing.T) {
	for _, c := range wrongConfigs {
		_, w, _ := fresh(t, usual)
		checkNone(t, New(w, c), api.ErrRange)
		checkNone(t, New(nil, c), api.ErrRange)
	}
	checkNone(t, New(nil, usual), api.ErrState)
	for sector := range 3 {
		d, w, x := full(t, usual)
		checkErr(t, "Begin", w.Begin(), api.OK)
		checkErr(t, "Stage", w.Stage(2+sector, filler(0)), api.OK)
		for ahead := range sector {
			checkErr(t, "Stage", w.Stage(2+ahead, sectorOf(nth(0), nth(1))), api.OK)
		}
		d.DownAt(d.Ops() + 1)
		checkNone(t, x, api.ErrCorrupt) // and those behind can't be read
	}
	for sector := range 3 {
		d, w, x := full(t, usual)
		checkErr(t, "Begin", w.Begin(), api.OK)
		for other := range 3 {
			if other < sector {
				checkErr(t, "Stage", w.Stage(2+other, sectorOf(nth(0), nth(1))), api.OK)
			} else if other > sector {
				checkErr(t, "Stage", w.Stage(2+other, filler(0)), api.OK)
			}
		}
		d.Fail(d.Ops() + 1)
		checkNone(t, x, api.ErrIO) // and those behind are corrupt
	}
}

// 18.1: the list is nobody else's.
func TestAllOwn(t *testing.T) {
	_, _, x := full(t, usual)
	l, e := x.All()
	checkErr(t, "All", e, api.OK)
	for i := range l {
		l[i] = made(1, 1, 1)
	}
	l = append(l, made(2, 2, 2))
	checkAll(t, x, nths(5))
}

// 18.1, P1: of nil, and of a table that New did not make, at any arguments.
func TestNil(t *testing.T) {
	for _, x := range []*Table{nil, {}} {
		want := api.ErrState
		if x != nil {
			want = api.ErrRange
		}
		checkErr(t, "Format", x.Format(), want)
		checkNone(t, x, want)
		for _, extent := range append([]int{0, 1, 4}, noExtents...) {
			checkGet(t, x, extent, api.Entry{}, want)
			for _, one := range append(slices.Clone(right), wrong...) {
				checkErr(t, "Put", x.Put(extent, one), want)
			}
		}
	}
	no := &wal.Wal{}
	checkErr(t, "Begin", no.Begin(), api.OK)
	checkErr(t, "Format at no log", New(no, usual).Format(), api.ErrRange)
}
