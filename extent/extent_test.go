package extent

import (
	"math/bits"
	"slices"
	"strings"
	"testing"

	"solder/api"
	"solder/disk"
	"solder/wal"
)

// 20.2: each extent of each number of extents is at its two sectors, and no other one is staged; what is aborted is not, and what is committed stays.
func TestStage(t *testing.T) {
	eachConfig(func(c api.Config) {
		d, w := fresh(t, c)
		sectors := placeOf(c, c.Extents) // up to the slots
		for extent := range c.Extents {
			were, data := seen(t, w, sectors), bytesOf(extent, 128)
			want := with(were, placeOf(c, extent), data)
			checkErr(t, "Begin", w.Begin(), api.OK)
			checkErr(t, "Stage", Stage(w, c, extent, data), api.OK)
			checkSeen(t, w, want)
			checkRead(t, w, c, extent, data, api.OK)
			w.Abort()
			checkSeen(t, w, were)
			checkErr(t, "Begin", w.Begin(), api.OK)
			checkErr(t, "Stage", Stage(w, c, extent, data), api.OK)
			checkErr(t, "Commit", w.Commit(), api.OK)
			checkErr(t, "Flush", w.Flush(), api.OK)
			d.Restart(nil)
			w = opened(t, d, c)
			checkSeen(t, w, want)
			checkRead(t, w, c, extent, data, api.OK)
		}
	})
}

// 20.2: what is there already is read, of each number of extents, and reading changes nothing.
func TestRead(t *testing.T) {
	eachConfig(func(c api.Config) {
		_, w := fresh(t, c)
		were := seen(t, w, placeOf(c, c.Extents))
		for extent := range c.Extents {
			at := placeOf(c, extent)
			checkRead(t, w, c, extent, filler(at)+filler(at+1), api.OK)
		}
		checkSeen(t, w, were)
	})
}

// 20.2: an extent's two sectors are read wherever each is seen.
func TestReadOver(t *testing.T) {
	_, w := begun(t, usual)
	at := placeOf(usual, 4)
	checkErr(t, "Stage", w.Stage(at, filler(901)), api.OK)
	checkRead(t, w, usual, 4, filler(901)+filler(at+1), api.OK)
	checkErr(t, "Commit", w.Commit(), api.OK)
	checkErr(t, "Begin", w.Begin(), api.OK)
	checkErr(t, "Stage", w.Stage(at+1, filler(902)), api.OK)
	checkRead(t, w, usual, 4, filler(901)+filler(902), api.OK)
	w.Abort()
	checkRead(t, w, usual, 4, filler(901)+filler(at+1), api.OK)
}

// 20.2: the chapter's example.
func TestExample(t *testing.T) {
	_, w := begun(t, usual)
	data := strings.Repeat("ab", 64)
	checkErr(t, "Stage", Stage(w, usual, 2, data), api.OK)
	checkErr(t, "Commit", w.Commit(), api.OK)
	checkRead(t, w, usual, 2, data, api.OK)
}

// 20.2: an extent has noughts on a new disk.
func TestNew(t *testing.T) {
	d := disk.New(allSectors)
	checkErr(t, "Format", wal.Format(d, firstOfLog, 24), api.OK)
	w := opened(t, d, usual)
	for extent := range 9 {
		checkRead(t, w, usual, extent, strings.Repeat("\x00", 128), api.OK)
	}
}

// 20.2: a volume that may not be, or an extent that there is not, comes ahead of all else, and is told also where there is no wal.
func TestRange(t *testing.T) {
	d, w := begun(t, usual)
	were := seen(t, w, firstOfLog)
	_, without := fresh(t, usual)
	check := func(c api.Config, extent int) {
		t.Helper()
		for _, w := range []*wal.Wal{w, without, nil, {}} {
			checkRead(t, w, c, extent, "", api.ErrRange)
			for _, length := range []int{0, 1, 64, 127, 128, 129, 2048} {
				checkErr(t, "Stage", Stage(w, c, extent, bytesOf(1, length)), api.ErrRange)
			}
		}
	}
	checkAll := func() {
		t.Helper()
		for _, c := range wrongConfigs {
			for extent := -1; extent <= 25; extent++ {
				check(c, extent)
			}
		}
		eachConfig(func(c api.Config) { check(c, c.Extents); check(c, -1) })
		for _, extent := range append([]int{9, 10, 23, 24, 255, 256, 265}, farNumbers...) {
			check(usual, extent)
		}
	}
	checkAll()
	checkSeen(t, w, were)
	down(d)
	checkAll()
	checkStaged(t, w, 0)
}

// 20.2: just 128 bytes, also if they are whole sectors that Save would let be; be there a transaction or not.
func TestStageSize(t *testing.T) {
	d, w := begun(t, usual)
	were := seen(t, w, firstOfLog)
	_, without := fresh(t, usual)
	lengths := wrongLengths
	for many := range 17 {
		if many != 2 {
			lengths = append(lengths, 64*many)
		}
	}
	for _, length := range lengths {
		for _, w := range []*wal.Wal{w, without, nil, {}} {
			for extent := range 9 {
				checkErr(t, "Stage", Stage(w, usual, extent, bytesOf(1, length)), api.ErrSize)
			}
		}
	}
	checkSeen(t, w, were)
	down(d)
	checkErr(t, "Stage", Stage(w, usual, 0, bytesOf(1, 127)), api.ErrSize)
	checkStaged(t, w, 0)
}

// 20.2: Load's errors, whichever of the two sectors has one; what is seen over the disk is read without it.
func TestReadErrors(t *testing.T) {
	checkRead(t, nil, usual, 0, "", api.ErrState)
	checkRead(t, &wal.Wal{}, usual, 0, "", api.ErrState)
	for extent := range 9 {
		for which := range 2 {
			d, w := begun(t, usual)
			at := placeOf(usual, extent)
			stageAllBut(t, w, at, 2, which)
			d.Fail(d.Ops() + 1)
			checkRead(t, w, usual, extent, "", api.ErrIO)
			down(d)
			checkRead(t, w, usual, extent, "", api.ErrDown)
			checkErr(t, "Stage", Stage(w, usual, extent, bytesOf(1, 128)), api.OK)
			checkRead(t, w, usual, extent, bytesOf(1, 128), api.OK)
		}
	}
}

// 20.2: where a disk is less than its volume, or its log elsewhere, the wal's errors are told.
func TestOtherDisk(t *testing.T) {
	for behind := range 3 { // so many sectors, of the extent 8's two, are behind the log
		w, e := wal.Open(filled(t, 24+behind, 0, 24), 0, 24)
		checkErr(t, "Open", e, api.OK)
		c := api.Config{Extents: 11, Slots: 1, Log: 24}
		whole := map[bool]api.Errno{true: api.OK, false: api.ErrRange}[behind == 2]
		data := map[bool]string{true: filler(24) + filler(25)}[behind == 2]
		checkRead(t, w, c, 8, data, whole)
		checkRead(t, w, c, 9, "", api.ErrRange)
		checkErr(t, "Begin", w.Begin(), api.OK)
		checkErr(t, "Stage", Stage(w, c, 7, bytesOf(1, 128)), api.ErrRange)
		checkErr(t, "Stage", Stage(w, c, 9, bytesOf(1, 128)), api.ErrRange)
		checkErr(t, "Stage", Stage(w, c, 8, bytesOf(1, 128)), whole)
		checkLoad(t, w, 24, behind, bytesOf(1, 64*behind), api.OK)
	}
}

// fault is something that is wrong with a Stage, and the error by which it is told.
type fault struct {
	name string
	e    api.Errno
}

// The faults of a Stage in the order in which the chapter names them.
var faults = []fault{
	{"config", api.ErrRange},
	{"extent", api.ErrRange},
	{"size", api.ErrSize},
	{"state", api.ErrState},
	{"full", api.ErrFull},
}

// 20.2: of several errors of Stage the one that is named first is told, and nothing is changed.
func TestStageFaults(t *testing.T) {
	for mask := range 1 << len(faults) {
		has := func(name string) bool {
			i := slices.IndexFunc(faults, func(f fault) bool { return f.name == name })
			return mask&(1<<i) != 0
		}
		if has("state") && has("full") {
			continue // without a transaction no sectors are staged
		}
		want := api.OK
		if mask != 0 {
			want = faults[bits.TrailingZeros(uint(mask))].e
		}
		for extent := range 9 {
			checkFaults(t, has, extent, want)
		}
	}
}

// checkFaults stages an extent with faults; the disk is down, as staging needs none.
func checkFaults(t *testing.T, has func(name string) bool, extent int, want api.Errno) {
	t.Helper()
	d, w := fresh(t, usual)
	c, at, length := usual, extent, 128
	if has("config") {
		c.Slots = 9
	}
	if has("extent") {
		at = extent - 9*(1+extent%2) - 1
	}
	if has("size") {
		length = 64 * (1 + 2*(extent%2))
	}
	if !has("state") {
		checkErr(t, "Begin", w.Begin(), api.OK)
	}
	if has("full") {
		stageOthers(t, w, 16)
	}
	were := seen(t, w, firstOfLog)
	down(d)
	checkErr(t, "Stage", Stage(w, c, at, bytesOf(1, length)), want)
	d.Restart(nil)
	if want == api.OK {
		were = with(were, placeOf(usual, extent), bytesOf(1, 128))
	}
	checkSeen(t, w, were)
}

// 20.2: where there is room for the first sector alone, that one is staged, as Save's words say; aborted, nothing of the extent is.
func TestStageHalf(t *testing.T) {
	for extent := range 9 {
		_, w := begun(t, usual)
		were := seen(t, w, firstOfLog)
		stageOthers(t, w, 15)
		data := bytesOf(extent, 128)
		want := with(seen(t, w, firstOfLog), placeOf(usual, extent), data[:64])
		checkErr(t, "Stage", Stage(w, usual, extent, data), api.ErrFull)
		checkSeen(t, w, want)
		w.Abort()
		checkSeen(t, w, were)
	}
}

// 20.2: eight extents are a transaction; each of them may be staged again in it, and a ninth has no room.
func TestStageEight(t *testing.T) {
	_, w := begun(t, usual)
	want := seen(t, w, firstOfLog)
	for _, more := range []int{0, 100} {
		for extent := range 8 {
			checkErr(t, "Stage", Stage(w, usual, extent, bytesOf(more+extent, 128)), api.OK)
			want = with(want, placeOf(usual, extent), bytesOf(more+extent, 128))
		}
		checkErr(t, "Stage", Stage(w, usual, 8, bytesOf(8, 128)), api.ErrFull)
		checkSeen(t, w, want)
	}
	checkErr(t, "Commit", w.Commit(), api.OK)
	checkSeen(t, w, want)
}

// 20.2: staging needs no room in the log; what its commit lacks a checkpoint makes.
func TestStageLogFull(t *testing.T) {
	_, w := begun(t, usual)
	for w.Room() >= 3 {
		checkErr(t, "Stage", Stage(w, usual, 0, bytesOf(w.Room(), 128)), api.OK)
		checkErr(t, "Commit", w.Commit(), api.OK)
		checkErr(t, "Begin", w.Begin(), api.OK)
	}
	for extent := range 8 {
		checkErr(t, "Stage", Stage(w, usual, extent, bytesOf(extent, 128)), api.OK)
	}
	checkErr(t, "Commit", w.Commit(), api.ErrFull)
	checkErr(t, "Checkpoint", w.Checkpoint(), api.OK)
	checkErr(t, "Commit", w.Commit(), api.OK)
	for extent := range 8 {
		checkRead(t, w, usual, extent, bytesOf(extent, 128), api.OK)
	}
}
