package journal

import (
	"math/bits"
	"slices"
	"strings"
	"testing"

	"solder/api"
	"solder/disk"
	"solder/marks"
	"solder/wal"
)

// 19.2: the journal's sector is staged, and no other one, of each number of extents; what is aborted is not, and what is committed is there.
func TestSave(t *testing.T) {
	eachConfig(func(c api.Config) {
		for _, marked := range someMarked(c.Extents) {
			d, w := fresh(t, c)
			were := seen(t, w, c)
			checkErr(t, "Begin", w.Begin(), api.OK)
			checkErr(t, "Save", Save(w, c, setOf(c.Extents, marked)), api.OK)
			checkSeen(t, w, c, with(were, c.Extents, marked))
			checkLoad(t, w, c, marked, api.OK)
			w.Abort()
			checkSeen(t, w, c, were)
			checkErr(t, "Begin", w.Begin(), api.OK)
			checkErr(t, "Save", Save(w, c, setOf(c.Extents, marked)), api.OK)
			checkErr(t, "Commit", w.Commit(), api.OK)
			checkErr(t, "Flush", w.Flush(), api.OK)
			d.Restart(nil)
			w = opened(t, d, c)
			checkSeen(t, w, c, with(were, c.Extents, marked))
			checkLoad(t, w, c, marked, api.OK)
		}
	})
}

// 19.2: what is saved last counts, and takes one sector of the transaction.
func TestSaveAgain(t *testing.T) {
	_, w := begun(t, usual, 3)
	were := seen(t, w, usual)
	for _, marked := range []int{1, 0, all(9), 1 << 8} {
		checkErr(t, "Save", Save(w, usual, setOf(9, marked)), api.OK)
		checkSeen(t, w, usual, with(were, 9, marked))
	}
	checkStaged(t, w, usual, 1)
}

// 19.2: a set that was saved stays its owner's: what is done to it behind is not staged, and Save does nothing to it.
func TestSaveOwn(t *testing.T) {
	_, w := begun(t, usual, 0)
	s := setOf(9, 5)
	checkErr(t, "Save", Save(w, usual, s), api.OK)
	checkSet(t, "the set that was saved", s, api.OK, 9, 5, api.OK)
	s.Add(8)
	checkLoad(t, w, usual, 5, api.OK)
	got, e := Load(w, usual)
	checkErr(t, "Load", e, api.OK)
	got.Add(1)
	checkErr(t, "Mark", Mark(w, usual, 0, false), api.OK)
	checkSet(t, "the set that was saved", s, api.OK, 9, 1<<8|5, api.OK)
	checkSet(t, "the set that was loaded", got, api.OK, 9, 7, api.OK)
	checkLoad(t, w, usual, 4, api.OK)
}

// 19.2: a set of just as many numbers as there are extents, whatever it has, and be the wal none.
func TestSaveRange(t *testing.T) {
	eachConfig(func(c api.Config) {
		_, w := begun(t, c, 0)
		were := seen(t, w, c)
		checkErr(t, "Save of nil", Save(w, c, nil), api.ErrRange)
		checkErr(t, "Save of nil without a wal", Save(nil, c, nil), api.ErrRange)
		for many := range 60 {
			if many == c.Extents {
				continue
			}
			for _, marked := range []int{0, 1, all(many)} {
				checkErr(t, "Save", Save(w, c, setOf(many, marked)), api.ErrRange)
				checkErr(t, "Save without a wal", Save(nil, c, setOf(many, marked)), api.ErrRange)
			}
		}
		checkErr(t, "Save of 1000", Save(w, c, marks.New(1000)), api.ErrRange)
		checkErr(t, "Save of 256 more", Save(w, c, marks.New(256+c.Extents)), api.ErrRange)
		checkSeen(t, w, c, were)
		checkStaged(t, w, c, 0)
	})
}

// 19.2: layout's Check comes ahead of all else, in each call, though the set is of as many numbers.
func TestConfig(t *testing.T) {
	for _, c := range wrongConfigs {
		d, w := begun(t, usual, 5)
		were := seen(t, w, usual)
		for _, w := range []*wal.Wal{w, nil, {}} {
			checkErr(t, "Save", Save(w, c, marks.New(c.Extents)), api.ErrRange)
			checkErr(t, "Save of nil", Save(w, c, nil), api.ErrRange)
			checkLoad(t, w, c, 0, api.ErrRange)
			for extent := -1; extent <= 26; extent++ {
				checkErr(t, "Mark", Mark(w, c, extent, true), api.ErrRange)
				checkErr(t, "Mark", Mark(w, c, extent, false), api.ErrRange)
			}
		}
		checkSeen(t, w, usual, were)
		checkStaged(t, w, usual, 0)
		down(d)
		checkLoad(t, w, c, 0, api.ErrRange)
	}
}

// 19.2: the wal's errors of staging a set, each as it is; it needs no disk.
func TestSaveStage(t *testing.T) {
	s := setOf(9, 5)
	checkErr(t, "Save without a wal", Save(nil, usual, s), api.ErrState)
	checkErr(t, "Save at no log", Save(&wal.Wal{}, usual, s), api.ErrState)
	d, w := full(t, usual, 0)
	checkErr(t, "Save without a transaction", Save(w, usual, s), api.ErrState)
	checkErr(t, "Begin", w.Begin(), api.OK)
	checkErr(t, "Commit", w.Commit(), api.OK)
	checkErr(t, "Save behind a transaction", Save(w, usual, s), api.ErrState)
	checkLoad(t, w, usual, 0, api.OK)
	checkErr(t, "Begin", w.Begin(), api.OK)
	stageOthers(t, w, usual, 16)
	checkErr(t, "Save of one too many", Save(w, usual, s), api.ErrFull)
	checkErr(t, "Save of nil", Save(w, usual, nil), api.ErrRange)
	checkErr(t, "Save of other extents", Save(w, usual, marks.New(10)), api.ErrRange)
	checkLoad(t, w, usual, 0, api.OK)
	w.Abort()
	checkErr(t, "Begin", w.Begin(), api.OK)
	stageOthers(t, w, usual, 15)
	down(d)
	checkErr(t, "Save of the last one", Save(w, usual, s), api.OK)
	checkErr(t, "Save of it again", Save(w, usual, setOf(9, 6)), api.OK)
	checkLoad(t, w, usual, 6, api.OK)
}

// 19.2: where the journal's sector is the log's, the wal has an error.
func TestInLog(t *testing.T) {
	for from := range 2 {
		d := disk.New(60)
		checkErr(t, "Format", wal.Format(d, from, 24), api.OK)
		w, e := wal.Open(d, from, 24)
		checkErr(t, "Open", e, api.OK)
		checkErr(t, "Begin", w.Begin(), api.OK)
		checkErr(t, "Save", Save(w, usual, setOf(9, 5)), api.ErrRange)
		checkLoad(t, w, usual, 0, api.ErrCorrupt)
		checkErr(t, "Mark", Mark(w, usual, 0, true), api.ErrCorrupt)
	}
}

// 19.2: what the sector says, of each number of extents, wherever it is seen; and that is read alone.
func TestLoad(t *testing.T) {
	eachConfig(func(c api.Config) {
		for _, marked := range someMarked(c.Extents) {
			_, w := full(t, c, marked)
			were := seen(t, w, c)
			checkLoad(t, w, c, marked, api.OK)
			checkErr(t, "Begin", w.Begin(), api.OK)
			checkErr(t, "Stage", w.Stage(1, sectorOf(c.Extents, marked^1)), api.OK)
			checkLoad(t, w, c, marked^1, api.OK)
			w.Abort()
			checkLoad(t, w, c, marked, api.OK)
			checkSeen(t, w, c, were)
		}
	})
}

// 19.2: the errors of reading, each as it is, whatever the sector says; what is seen over the disk is read without it.
func TestLoadRead(t *testing.T) {
	checkLoad(t, nil, usual, 0, api.ErrState)
	checkLoad(t, &wal.Wal{}, usual, 0, api.ErrState)
	for _, s := range []string{sectorOf(9, 5), filler(1)} {
		d, w := laid(t, usual, s)
		d.Fail(d.Ops() + 1)
		checkLoad(t, w, usual, 0, api.ErrIO)
		d.DownAt(d.Ops() + 1)
		checkLoad(t, w, usual, 0, api.ErrDown)
		checkLoad(t, w, usual, 0, api.ErrDown)
		checkErr(t, "Begin", w.Begin(), api.OK)
		checkErr(t, "Stage", w.Stage(1, sectorOf(9, 3)), api.OK)
		checkLoad(t, w, usual, 3, api.OK)
	}
	d := disk.New(24)
	checkErr(t, "Format", wal.Format(d, 0, 24), api.OK)
	w, e := wal.Open(d, 0, 24)
	checkErr(t, "Open", e, api.OK)
	checkLoad(t, w, usual, 0, api.ErrCorrupt) // the sector is the log's, which says no set
}

// corruptOnes are sectors that say no set of the usual volume's.
func corruptOnes() []string {
	whole := sectorOf(9, 257)
	l := []string{padded(""), padded("J"), padded("J\x09"), strings.Repeat("\xff", 64), strings.Repeat("J", 64), whole[1:] + "\x00"}
	for at := range 64 {
		l = append(l, changed(whole, at, whole[at]^1), changed(whole, at, whole[at]^128))
	}
	for many := range 26 {
		if many != 9 {
			l = append(l, sectorOf(many, 0), sectorOf(many, 1&all(many)), sectorOf(many, all(many)))
		}
	}
	for bit := 9; bit < 16; bit++ {
		l = append(l, sectorOf(9, 1<<bit), sectorOf(9, 1<<bit|all(9)))
	}
	return l
}

// 19.2: a sector that says no set, or one of another number of extents, is corrupt; nothing is marked in it.
func TestCorrupt(t *testing.T) {
	_, w := fresh(t, usual)
	for _, s := range corruptOnes() {
		checkErr(t, "Begin", w.Begin(), api.OK)
		checkErr(t, "Stage", w.Stage(1, s), api.OK)
		were := seen(t, w, usual)
		checkLoad(t, w, usual, 0, api.ErrCorrupt)
		for extent := range 9 {
			checkErr(t, "Mark", Mark(w, usual, extent, true), api.ErrCorrupt)
			checkErr(t, "Mark", Mark(w, usual, extent, false), api.ErrCorrupt)
		}
		checkSeen(t, w, usual, were)
		checkErr(t, "Save", Save(w, usual, setOf(9, 5)), api.OK)
		checkLoad(t, w, usual, 5, api.OK)
		w.Abort()
	}
}

// 19.2: a set that was loaded is nobody else's.
func TestLoadOwn(t *testing.T) {
	_, w := begun(t, usual, 5)
	one, e := Load(w, usual)
	checkErr(t, "Load", e, api.OK)
	one.Remove(0)
	one.Add(8)
	checkLoad(t, w, usual, 5, api.OK)
	checkErr(t, "Mark", Mark(w, usual, 1, true), api.OK)
	checkSet(t, "the one that was changed", one, api.OK, 9, 1<<8|1<<2, api.OK)
	checkLoad(t, w, usual, 7, api.OK)
}

// marked is a set with a number, or without it.
func marked(was, extent int, is bool) int {
	if is {
		return was | 1<<extent
	}
	return was &^ (1 << extent)
}

// 19.2: each extent of each number of extents, whatever others are: the sector is staged with it, or without it, and no other one; if it is so already, nothing is.
func TestMark(t *testing.T) {
	eachConfig(func(c api.Config) {
		for _, was := range []int{0, all(c.Extents), 0x965a96 & all(c.Extents)} {
			for extent := range c.Extents {
				for _, is := range []bool{true, false} {
					checkMark(t, c, was, extent, is)
				}
			}
		}
	})
}

// checkMark marks an extent, and sees what comes of it.
func checkMark(t *testing.T, c api.Config, was, extent int, is bool) {
	t.Helper()
	_, w := begun(t, c, was)
	were := seen(t, w, c)
	will := marked(was, extent, is)
	checkErr(t, "Mark", Mark(w, c, extent, is), api.OK)
	checkSeen(t, w, c, with(were, c.Extents, will))
	checkLoad(t, w, c, will, api.OK)
	checkStaged(t, w, c, bits.OnesCount(uint(was^will)))
	checkSeen(t, w, c, were)
}

// 19.2: what is so already is OK, also without a transaction, or in one that is full; and it takes nothing of the log.
func TestMarkSame(t *testing.T) {
	_, w := full(t, usual, 0x155)
	same := func() {
		t.Helper()
		for extent := range 9 {
			checkErr(t, "Mark", Mark(w, usual, extent, extent%2 == 0), api.OK)
		}
	}
	same()
	checkErr(t, "Begin", w.Begin(), api.OK)
	same()
	room := w.Room()
	checkErr(t, "Commit", w.Commit(), api.OK)
	if w.Room() != room || !w.Sure() {
		t.Errorf("Room %d, want %d; Sure %v", w.Room(), room, w.Sure())
	}
	checkErr(t, "Begin", w.Begin(), api.OK)
	stageOthers(t, w, usual, 16)
	same()
	checkErr(t, "Mark", Mark(w, usual, 1, true), api.ErrFull)
	checkErr(t, "Mark", Mark(w, usual, 0, false), api.ErrFull)
	checkLoad(t, w, usual, 0x155, api.OK)
}

// 19.2: what was marked in the transaction counts: marking it again stages nothing, and back and forth is as if it was not.
func TestMarkAgain(t *testing.T) {
	_, w := begun(t, usual, 0)
	stageOthers(t, w, usual, 15)
	for range 3 {
		for _, is := range []bool{true, true, false, false} {
			checkErr(t, "Mark", Mark(w, usual, 8, is), api.OK)
			checkLoad(t, w, usual, marked(0, 8, is), api.OK)
		}
	}
	checkErr(t, "Stage of one more", w.Stage(0, filler(0)), api.ErrFull)
	checkLoad(t, w, usual, 0, api.OK)
}

// 19.2: the chapter's example.
func TestExample(t *testing.T) {
	_, w := begun(t, usual, 0)
	checkErr(t, "Mark", Mark(w, usual, 2, true), api.OK)
	s, e := Load(w, usual)
	if e != api.OK || !s.Has(2) || s.Len() != 1 {
		t.Errorf("Load: %v, error %d", s, e)
	}
}

// 19.2: an extent that there is not comes ahead of Load's error, and is told also where there is no wal.
func TestMarkRange(t *testing.T) {
	eachConfig(func(c api.Config) {
		d, w := begun(t, c, 0)
		_, corrupt := fresh(t, c)
		were := seen(t, w, c)
		wals := []*wal.Wal{w, corrupt, nil, {}}
		check := func(extent int) {
			for _, w := range wals {
				checkErr(t, "Mark", Mark(w, c, extent, true), api.ErrRange)
				checkErr(t, "Mark", Mark(w, c, extent, false), api.ErrRange)
			}
		}
		for _, extent := range noExtents {
			if extent < 0 || extent >= c.Extents {
				check(extent)
			}
		}
		check(c.Extents)
		checkSeen(t, w, c, were)
		checkStaged(t, w, c, 0)
		down(d)
		check(-1)
		check(c.Extents)
	})
}

// fault is something that is wrong with a Mark, and the error by which it is told.
type fault struct {
	name string
	e    api.Errno
}

// The faults of a Mark in the order in which the chapter names them; with "same" there is nothing to stage, so that what is behind it is none.
var faults = []fault{
	{"config", api.ErrRange},
	{"extent", api.ErrRange},
	{"reading", api.ErrIO},
	{"corrupt", api.ErrCorrupt},
	{"same", api.OK},
	{"state", api.ErrState},
	{"full", api.ErrFull},
}

// 19.2: of several errors of Mark the one that is named first is told, and nothing is changed.
func TestMarkFaults(t *testing.T) {
	for mask := range 1 << len(faults) {
		has := func(name string) bool {
			i := slices.IndexFunc(faults, func(f fault) bool { return f.name == name })
			return mask&(1<<i) != 0
		}
		if has("state") && has("full") {
			continue // without a transaction no sectors are staged
		}
		want := api.OK
		if mask != 0 {
			want = faults[bits.TrailingZeros(uint(mask))].e
		}
		for _, is := range []bool{true, false} {
			checkFaults(t, has, is, want, mask == 0)
		}
	}
}

// checkFaults marks an extent, or marks it no more, with faults.
func checkFaults(t *testing.T, has func(name string) bool, is bool, want api.Errno, done bool) {
	t.Helper()
	const extent = 8
	was := marked(5, extent, is == has("same"))
	d, w := full(t, usual, was)
	if has("corrupt") {
		checkErr(t, "Write", d.Write(1, filler(1)), api.OK)
	}
	c, at := usual, extent
	if has("config") {
		c.Log = 23
	}
	if has("extent") {
		at = 9
	}
	if !has("state") {
		checkErr(t, "Begin", w.Begin(), api.OK)
	}
	if has("full") {
		stageOthers(t, w, usual, 16)
	}
	were := seen(t, w, usual)
	if has("reading") {
		d.Fail(d.Ops() + 1)
	}
	checkErr(t, "Mark", Mark(w, c, at, is), want)
	d.Read(0)
	if done {
		were = with(were, 9, marked(was, extent, is))
	}
	checkSeen(t, w, usual, were)
}

// 19.2: Load's errors and the wal's, each as it is; what is seen over the disk is marked without it.
func TestMarkRead(t *testing.T) {
	for _, is := range []bool{true, false} {
		checkErr(t, "Mark without a wal", Mark(nil, usual, 0, is), api.ErrState)
		checkErr(t, "Mark at no log", Mark(&wal.Wal{}, usual, 0, is), api.ErrState)
		d, w := begun(t, usual, 1)
		d.Fail(d.Ops() + 1)
		checkErr(t, "Mark", Mark(w, usual, 0, is), api.ErrIO)
		down(d)
		checkErr(t, "Mark", Mark(w, usual, 0, is), api.ErrDown)
		checkErr(t, "Save", Save(w, usual, setOf(9, 5)), api.OK)
		checkErr(t, "Mark", Mark(w, usual, 0, is), api.OK)
		checkErr(t, "Mark", Mark(w, usual, 1, is), api.OK)
		checkLoad(t, w, usual, marked(marked(5, 0, is), 1, is), api.OK)
	}
}
