package super

import (
	"slices"
	"strings"
	"testing"

	"solder/api"
	"solder/disk"
	"solder/layout"
	"solder/wal"
)

// checkErr sees that an error is the one that is asked for.
func checkErr(t *testing.T, what string, got, want api.Errno) {
	t.Helper()
	if got != want {
		t.Fatalf("%s: error %d, want %d", what, got, want)
	}
}

// opened is the wal of a volume's disk.
func opened(t *testing.T, d *disk.Disk, c api.Config) *wal.Wal {
	t.Helper()
	w, e := wal.Open(d, layout.Log(c), c.Log)
	checkErr(t, "Open", e, api.OK)
	return w
}

// fresh is a disk for the usual volume, all of whose sectors have bytes but those of an empty log, and its wal.
func fresh(t *testing.T) (*disk.Disk, *wal.Wal) {
	t.Helper()
	d := disk.New(layout.Sectors(usual.Config))
	for at := range d.Sectors() {
		checkErr(t, "Write", d.Write(at, filler(at)), api.OK)
	}
	checkErr(t, "Format", wal.Format(d, layout.Log(usual.Config), usual.Config.Log), api.OK)
	return d, opened(t, d, usual.Config)
}

// filler is bytes that a sector has ahead of all tests: no two have the same.
func filler(at int) string { return strings.Repeat(string([]byte{byte('0' + at)}), 64) }

// save saves and commits.
func save(t *testing.T, w *wal.Wal, s api.Super) {
	t.Helper()
	checkErr(t, "Begin", w.Begin(), api.OK)
	checkErr(t, "Save", Save(w, s), api.OK)
	checkErr(t, "Commit", w.Commit(), api.OK)
}

// laid is a wal whose disk has these bytes in its first sector, up to a sector.
func laid(t *testing.T, b string) *wal.Wal {
	t.Helper()
	d, _ := fresh(t)
	checkErr(t, "Write", d.Write(0, padded(b[:min(64, len(b))])), api.OK)
	return opened(t, d, usual.Config)
}

// checkLoad sees that Load answers what bytes in the first sector say.
func checkLoad(t *testing.T, w *wal.Wal, b string) {
	t.Helper()
	want, e := getByWords(padded(b[:min(64, len(b))]))
	if e != api.OK {
		e = api.ErrCorrupt
	}
	checkLoaded(t, w, want, e)
}

// checkLoaded holds Load against what is to come.
func checkLoaded(t *testing.T, w *wal.Wal, want api.Super, e api.Errno) {
	t.Helper()
	if got, gotE := Load(w); got != want || gotE != e {
		t.Errorf("Load = %v, %d, want %v, %d", got, gotE, want, e)
	}
}

// checkOthers sees that all sectors but the first one and the log's are as they were.
func checkOthers(t *testing.T, w *wal.Wal) {
	t.Helper()
	for at := 1; at < layout.Log(usual.Config); at++ {
		if s, e := w.Read(at); s != filler(at) || e != api.OK {
			t.Errorf("sector %d: %q, error %d", at, s, e)
		}
	}
}

// 16.3: the chapter's example; what was saved is there behind a commit, a checkpoint, and when the log is opened again.
func TestSaved(t *testing.T) {
	d, w := fresh(t)
	save(t, w, usual)
	checkLoaded(t, w, usual, api.OK)
	other := made(0, 0, 1<<24, 0, 3, 1, 24)
	save(t, w, other)
	checkLoaded(t, w, other, api.OK)
	checkErr(t, "Checkpoint", w.Checkpoint(), api.OK)
	checkLoaded(t, w, other, api.OK)
	if s, e := d.Read(0); s != sectorOf(other) || e != api.OK {
		t.Errorf("sector 0: %q, error %d", s, e)
	}
	save(t, w, usual)
	checkErr(t, "Flush", w.Flush(), api.OK)
	d.Restart(nil)
	w = opened(t, d, usual.Config)
	checkLoaded(t, w, usual, api.OK)
	checkOthers(t, w)
}

// 16.3: of all that may be, what is saved is staged at the sector 0, and loaded.
func TestSaveAll(t *testing.T) {
	_, w := fresh(t)
	checkErr(t, "Begin", w.Begin(), api.OK)
	for _, s := range allRight() {
		checkErr(t, "Save", Save(w, s), api.OK)
		if b, e := w.Read(0); b != sectorOf(s) || e != api.OK {
			t.Errorf("sector 0: %q, error %d", b, e)
		}
		checkLoaded(t, w, s, api.OK)
	}
	checkOthers(t, w)
}

// 16.3: what is staged is seen, till the transaction is aborted; nothing is written ahead of the commit.
func TestSaveAborted(t *testing.T) {
	d, w := fresh(t)
	save(t, w, usual)
	ops := d.Ops()
	checkErr(t, "Begin", w.Begin(), api.OK)
	other := made(0, 0, 7, 1, 3, 1, 24)
	checkErr(t, "Save", Save(w, other), api.OK)
	checkLoaded(t, w, other, api.OK)
	w.Abort()
	checkLoaded(t, w, usual, api.OK)
	if d.Ops() != ops {
		t.Errorf("the disk was asked %d times", d.Ops()-ops)
	}
}

// 16.3: Put's error comes ahead of the wal's, and nothing is staged; what was staged ahead stays.
func TestSaveWrong(t *testing.T) {
	_, w := fresh(t)
	for _, s := range allWrong() {
		checkErr(t, "Save without a wal", Save(nil, s), api.ErrRange)
		checkErr(t, "Save without a transaction", Save(w, s), api.ErrRange)
		checkErr(t, "Begin", w.Begin(), api.OK)
		checkErr(t, "Save", Save(w, s), api.ErrRange)
		if b, e := w.Read(0); b != filler(0) || e != api.OK {
			t.Errorf("sector 0: %q, error %d", b, e)
		}
		checkErr(t, "Save", Save(w, usual), api.OK)
		checkErr(t, "Save", Save(w, s), api.ErrRange)
		checkLoaded(t, w, usual, api.OK)
		w.Abort()
	}
}

// 16.3: without a transaction, or a wal, nothing is saved.
func TestSaveState(t *testing.T) {
	checkErr(t, "Save without a wal", Save(nil, usual), api.ErrState)
	checkErr(t, "Save at no log", Save(&wal.Wal{}, usual), api.ErrState)
	_, w := fresh(t)
	checkErr(t, "Save without a transaction", Save(w, usual), api.ErrState)
	checkLoaded(t, w, api.Super{}, api.ErrCorrupt)
	save(t, w, usual)
	checkErr(t, "Save behind the transaction", Save(w, known[1].s), api.ErrState)
	checkLoaded(t, w, usual, api.OK)
}

// 16.3: with as many other sectors as a transaction may have there is no room for it; with it as one of them there is.
func TestSaveFull(t *testing.T) {
	c := api.Config{Extents: 24, Slots: 1, Log: 24}
	s := made(0, 1, 3, 23, 24, 1, 24)
	d := disk.New(layout.Sectors(c))
	checkErr(t, "Format", wal.Format(d, layout.Log(c), c.Log), api.OK)
	w := opened(t, d, c)
	for _, ahead := range []bool{false, true} {
		checkErr(t, "Begin", w.Begin(), api.OK)
		if ahead {
			checkErr(t, "Save", Save(w, usual), api.OK)
		}
		for at := 1; at <= 16; at++ {
			want := api.OK
			if ahead && at == 16 {
				want = api.ErrFull
			}
			checkErr(t, "Stage", w.Stage(at, filler(at)), want)
		}
		if !ahead {
			checkErr(t, "Save", Save(w, s), api.ErrFull)
			checkLoaded(t, w, api.Super{}, api.ErrCorrupt)
		} else {
			checkErr(t, "Save", Save(w, s), api.OK)
			checkLoaded(t, w, s, api.OK)
		}
		w.Abort()
	}
}

// 16.3: where the sector 0 is the log's, nothing can be saved there.
func TestSaveInLog(t *testing.T) {
	d := disk.New(40)
	checkErr(t, "Format", wal.Format(d, 0, 24), api.OK)
	w, e := wal.Open(d, 0, 24)
	checkErr(t, "Open", e, api.OK)
	checkErr(t, "Begin", w.Begin(), api.OK)
	checkErr(t, "Save", Save(w, usual), api.ErrRange)
	checkLoaded(t, w, api.Super{}, api.ErrCorrupt)
}

// 16.3: the errors of Read, each as it is, whatever the sector says.
func TestLoadRead(t *testing.T) {
	checkLoaded(t, nil, api.Super{}, api.ErrState)
	checkLoaded(t, &wal.Wal{}, api.Super{}, api.ErrState)
	for _, right := range []bool{false, true} {
		d, w := fresh(t)
		want, e := api.Super{}, api.ErrCorrupt
		if right {
			save(t, w, usual)
			checkErr(t, "Checkpoint", w.Checkpoint(), api.OK)
			want, e = usual, api.OK
		}
		checkLoaded(t, w, want, e)
		d.Fail(d.Ops() + 1)
		checkLoaded(t, w, api.Super{}, api.ErrIO)
		checkLoaded(t, w, want, e)
		d.DownAt(d.Ops() + 1)
		checkLoaded(t, w, api.Super{}, api.ErrDown)
		checkLoaded(t, w, api.Super{}, api.ErrDown)
	}
}

// 16.3: whatever is wrong with the sector, it is corrupt; what may be is loaded.
func TestLoadCorrupt(t *testing.T) {
	whole := sectorOf(usual)
	for _, b := range []string{whole, sectorOf(known[4].s), padded(""), strings.Repeat("\xff", 64), strings.Repeat("S", 64), whole[1:] + "\x00", sectorOf(allWrong()[0])} {
		checkLoad(t, laid(t, b), b)
	}
	for at := range 64 {
		b := changed(whole, at, whole[at]^1)
		checkLoad(t, laid(t, b), b)
	}
	for _, s := range allWrong() {
		b := sectorOf(s)
		checkLoad(t, laid(t, b), b)
	}
}

// 16.3: what is staged or committed counts, and not what is on the disk below it.
func TestLoadSeen(t *testing.T) {
	w := laid(t, sectorOf(known[1].s))
	checkErr(t, "Begin", w.Begin(), api.OK)
	checkErr(t, "Stage", w.Stage(0, filler(0)), api.OK)
	checkLoaded(t, w, api.Super{}, api.ErrCorrupt)
	checkErr(t, "Commit", w.Commit(), api.OK)
	checkLoaded(t, w, api.Super{}, api.ErrCorrupt)
	save(t, w, usual)
	checkLoaded(t, w, usual, api.OK)
}

// goesDown saves other in the place of usual, which is sure, and flushes; at the k-th call of the disk the machine goes down. It answers what is loaded then, and whether the flush was done.
func goesDown(t *testing.T, other api.Super, k int, choices []int) (api.Super, bool) {
	t.Helper()
	d, w := fresh(t)
	save(t, w, usual)
	checkErr(t, "Flush", w.Flush(), api.OK)
	d.DownAt(d.Ops() + k)
	checkErr(t, "Begin", w.Begin(), api.OK)
	checkErr(t, "Save", Save(w, other), api.OK)
	w.Commit()
	sure := w.Flush() == api.OK
	d.Restart(choices)
	s, e := Load(opened(t, d, usual.Config))
	checkErr(t, "Load", e, api.OK)
	return s, sure
}

// 16.3: wherever the machine goes down while it is saved, what was sure is loaded then, or what was being saved; behind a flush just that.
func TestSaveGoesDown(t *testing.T) {
	other := made(0, 0, 259, 1, 3, 1, 24)
	for _, choices := range [][]int{nil, slices.Repeat([]int{1}, 40), {0, 1, 0, 1, 0, 1}, {1, 0, 1, 0, 1, 0}} {
		for k, sure := 1, false; !sure; k++ {
			var s api.Super
			s, sure = goesDown(t, other, k, choices)
			if s != other && (sure || s != usual) {
				t.Errorf("down at %d: %v", k, s)
			}
		}
	}
}
