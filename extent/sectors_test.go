package extent

import (
	"math/bits"
	"strings"
	"testing"

	"solder/api"
	"solder/wal"
)

// 20.1: Load is the sectors' bytes, one behind the other, of each number of sectors from each place on, wherever they are seen.
func TestLoad(t *testing.T) {
	d, w := begun(t, usual)
	checkErr(t, "Stage", w.Stage(9, filler(509)), api.OK)
	checkErr(t, "Stage", w.Stage(12, filler(512)), api.OK)
	checkErr(t, "Commit", w.Commit(), api.OK)
	checkErr(t, "Begin", w.Begin(), api.OK)
	checkErr(t, "Stage", w.Stage(9, filler(609)), api.OK)
	checkErr(t, "Stage", w.Stage(10, filler(610)), api.OK)
	want := seen(t, w, allSectors) // also the log's
	waits := d.Waits()
	for many := range 17 {
		for at := 0; at+many <= allSectors; at++ {
			checkLoad(t, w, at, many, strings.Join(want[at:at+many], ""), api.OK)
		}
	}
	checkSeen(t, w, want)
	if d.Waits() != waits {
		t.Errorf("%d writes wait, want %d", d.Waits(), waits)
	}
}

// 20.1: the sectors stand in their order, first of all the one that is asked for.
func TestLoadKnown(t *testing.T) {
	_, w := fresh(t, usual)
	checkLoad(t, w, 3, 1, filler(3), api.OK)
	checkLoad(t, w, 3, 3, filler(3)+filler(4)+filler(5), api.OK)
}

// 20.1: no sectors have no bytes, and no error of reading, wherever they are.
func TestLoadNone(t *testing.T) {
	d, w := fresh(t, usual)
	for _, w := range []*wal.Wal{w, nil, {}} {
		checkLoad(t, w, 0, 0, "", api.OK)
		for _, at := range farNumbers {
			checkLoad(t, w, at, 0, "", api.OK)
		}
	}
	down(d)
	checkLoad(t, w, 0, 0, "", api.OK)
}

// 20.1: more than 16 sectors, or less than none, are told ahead of all else, also if so many are there.
func TestLoadMany(t *testing.T) {
	d, w := begun(t, usual)
	many := append([]int{17, 18, 19, 32, 33, 59, 64, 255, 256, 257, 272}, farNumbers...)
	check := func() {
		t.Helper()
		for _, w := range []*wal.Wal{w, nil, {}} {
			for _, m := range many {
				for _, at := range append([]int{0, 1, 42, 58, 59}, farNumbers...) {
					checkLoad(t, w, at, m, "", api.ErrRange)
				}
			}
		}
	}
	check()
	down(d)
	check()
}

// 20.1: the disk's error of a sector that there is not, wherever among the sectors it is; and no bytes beside it.
func TestLoadRange(t *testing.T) {
	_, w := begun(t, usual)
	for many := 1; many <= 16; many++ {
		for at := allSectors - many + 1; at < allSectors+3; at++ {
			checkLoad(t, w, at, many, "", api.ErrRange)
		}
		for at := -many - 2; at < 0; at++ {
			checkLoad(t, w, at, many, "", api.ErrRange)
		}
		for _, at := range farNumbers {
			checkLoad(t, w, at, many, "", api.ErrRange)
		}
	}
}

// stageAllBut stages so many sectors from a place on, but one.
func stageAllBut(t *testing.T, w *wal.Wal, at, many, but int) {
	t.Helper()
	for i := range many {
		if i != but {
			checkErr(t, "Stage", w.Stage(at+i, filler(700+i)), api.OK)
		}
	}
}

// 20.1: each error of reading as it is, whichever sector has it; what is seen over the disk is read without it.
func TestLoadRead(t *testing.T) {
	checkLoad(t, nil, 0, 1, "", api.ErrState)
	checkLoad(t, &wal.Wal{}, 0, 1, "", api.ErrState)
	for many := 1; many <= 16; many++ {
		for but := range many {
			d, w := begun(t, usual)
			stageAllBut(t, w, 5, many, but)
			d.Fail(d.Ops() + 1)
			checkLoad(t, w, 5, many, "", api.ErrIO)
			d.DownAt(d.Ops() + 1)
			checkLoad(t, w, 5, many, "", api.ErrDown)
			checkLoad(t, w, 5, many, "", api.ErrDown)
			checkErr(t, "Stage", w.Stage(5+but, filler(700+but)), api.OK)
			want := ""
			for i := range many {
				want += filler(700 + i)
			}
			checkLoad(t, w, 5, many, want, api.OK)
		}
	}
}

// 20.1: of several errors of reading the first sector's is told.
func TestLoadFirst(t *testing.T) {
	d, w := fresh(t, usual)
	d.Fail(d.Ops() + 1)
	checkLoad(t, w, allSectors-1, 3, "", api.ErrIO) // the sector 58, ahead of 59 and 60, that there are not
	checkLoad(t, w, allSectors-1, 3, "", api.ErrRange)
	checkErr(t, "Begin", w.Begin(), api.OK)
	checkErr(t, "Stage", w.Stage(firstOfLog-1, filler(1)), api.OK)
	down(d)
	checkLoad(t, w, firstOfLog-1, 1, filler(1), api.OK)
	checkLoad(t, w, firstOfLog-1, 2, "", api.ErrDown)
}

// 20.1: of each number of sectors, from each place on, each is staged, in order, and no other one; what is aborted is not, and what is committed stays.
func TestSave(t *testing.T) {
	d, w := fresh(t, usual)
	for many := 1; many <= 16; many++ {
		for at := 0; at+many <= firstOfLog; at++ {
			were, data := seen(t, w, firstOfLog), sectorsOf(many*firstOfLog+at, many)
			checkErr(t, "Begin", w.Begin(), api.OK)
			checkErr(t, "Save", Save(w, at, data), api.OK)
			checkSeen(t, w, with(were, at, data))
			checkLoad(t, w, at, many, data, api.OK)
			w.Abort()
			checkSeen(t, w, were)
			checkErr(t, "Begin", w.Begin(), api.OK)
			checkErr(t, "Save", Save(w, at, data), api.OK)
			checkErr(t, "Checkpoint", w.Checkpoint(), api.OK)
			checkErr(t, "Commit", w.Commit(), api.OK)
			checkSeen(t, w, with(were, at, data))
			if many == 16 || at%5 == 0 {
				checkErr(t, "Flush", w.Flush(), api.OK)
				d.Restart(nil)
				w = opened(t, d, usual)
				checkSeen(t, w, with(were, at, data))
			}
		}
	}
}

// 20.1: the bytes may be any, and each sector has its own.
func TestSaveKnown(t *testing.T) {
	_, w := begun(t, usual)
	one, two, three := strings.Repeat("\x00", 64), strings.Repeat("\xff", 64), padded("three")
	checkErr(t, "Save", Save(w, 10, one+two+three), api.OK)
	want := with(with(with(seen(t, w, firstOfLog), 10, one), 11, two), 12, three)
	checkSeen(t, w, want)
	checkLoad(t, w, 9, 5, filler(9)+one+two+three+filler(13), api.OK)
	checkStaged(t, w, 3)
}

// 20.1: bytes over which others are saved count no more, and take no place in the transaction twice.
func TestSaveAgain(t *testing.T) {
	_, w := begun(t, usual)
	were := seen(t, w, firstOfLog)
	checkErr(t, "Save", Save(w, 10, sectorsOf(1, 4)), api.OK)
	checkErr(t, "Save", Save(w, 12, sectorsOf(2, 3)), api.OK)
	checkErr(t, "Save", Save(w, 13, sectorsOf(3, 1)), api.OK)
	checkSeen(t, w, with(with(with(were, 10, sectorsOf(1, 4)), 12, sectorsOf(2, 3)), 13, sectorsOf(3, 1)))
	checkStaged(t, w, 5)
}

// 20.1: what is not 1 to 16 whole sectors is told ahead of all else, and none of it is staged.
func TestSaveSize(t *testing.T) {
	d, w := begun(t, usual)
	were := seen(t, w, firstOfLog)
	_, without := fresh(t, usual)
	for _, length := range wrongLengths {
		for _, w := range []*wal.Wal{w, without, nil, {}} {
			for _, at := range append([]int{0, 10, firstOfLog - 1, firstOfLog, 58, 59}, farNumbers...) {
				checkErr(t, "Save", Save(w, at, bytesOf(1, length)), api.ErrSize)
			}
		}
	}
	for length := range 17*64 + 2 {
		if length%64 != 0 {
			checkErr(t, "Save", Save(w, 10, bytesOf(1, length)), api.ErrSize)
		}
	}
	checkSeen(t, w, were)
	down(d)
	checkErr(t, "Save", Save(w, 10, ""), api.ErrSize)
	checkStaged(t, w, 0)
}

// 20.1: without a transaction nothing is staged, wherever it was to be.
func TestSaveState(t *testing.T) {
	_, w := fresh(t, usual)
	were := seen(t, w, firstOfLog)
	check := func() {
		t.Helper()
		for _, w := range []*wal.Wal{w, nil, {}} {
			for _, at := range append([]int{0, 10, firstOfLog - 1, firstOfLog, 58, 59}, farNumbers...) {
				checkErr(t, "Save", Save(w, at, sectorsOf(1, 2)), api.ErrState)
			}
		}
	}
	check()
	checkErr(t, "Begin", w.Begin(), api.OK)
	checkErr(t, "Commit", w.Commit(), api.OK)
	check()
	checkErr(t, "Begin", w.Begin(), api.OK)
	w.Abort()
	check()
	checkSeen(t, w, were)
}

// 20.1: a sector that is the log's, or none of the disk, has an error; those ahead of it are staged, and none behind.
func TestSaveRange(t *testing.T) {
	for many := 1; many <= 16; many++ {
		for ahead := range many {
			_, w := begun(t, usual)
			at, data := firstOfLog-ahead, sectorsOf(many, many)
			want := with(seen(t, w, firstOfLog), at, data[:64*ahead])
			checkErr(t, "Save", Save(w, at, data), api.ErrRange)
			checkSeen(t, w, want)
		}
		_, w := begun(t, usual)
		were := seen(t, w, firstOfLog)
		for at := -many; at < 0; at++ { // the last ones of which there are, perhaps
			checkErr(t, "Save", Save(w, at, sectorsOf(1, many)), api.ErrRange)
		}
		for _, at := range append([]int{firstOfLog + 1, 58, 59, 60}, farNumbers...) {
			checkErr(t, "Save", Save(w, at, sectorsOf(1, many)), api.ErrRange)
		}
		checkSeen(t, w, were)
		checkStaged(t, w, 0)
	}
}

// 20.1: where sectors stand behind the log, the same goes for the disk's end, and for the log ahead of them.
func TestSaveBehindLog(t *testing.T) {
	for ahead := range 4 {
		w, e := wal.Open(filled(t, 40, 10, 24), 10, 24) // the sectors 34 to 39 are behind it
		checkErr(t, "Open", e, api.OK)
		checkErr(t, "Begin", w.Begin(), api.OK)
		want := with(seen(t, w, 40), 40-ahead, sectorsOf(1, ahead))
		checkErr(t, "Save", Save(w, 40-ahead, sectorsOf(1, 4)), api.ErrRange)
		checkSeen(t, w, want)
		checkErr(t, "Save", Save(w, 34-ahead, sectorsOf(2, 4)), map[bool]api.Errno{true: api.OK, false: api.ErrRange}[ahead == 0])
		if ahead == 0 {
			want = with(want, 34, sectorsOf(2, 4))
		}
		checkSeen(t, w, want)
	}
}

// 20.1: where the transaction has no room for all, those up to the first for which it has none are staged.
func TestSaveFull(t *testing.T) {
	for many := 1; many <= 16; many++ {
		for others := range 17 {
			d, w := begun(t, usual)
			stageOthers(t, w, others)
			data, room := sectorsOf(many, many), min(16-others, many)
			want := with(seen(t, w, firstOfLog), firstOfExtents, data[:64*room])
			e := api.OK
			if room < many {
				e = api.ErrFull
			}
			down(d)
			checkErr(t, "Save", Save(w, firstOfExtents, data), e)
			d.Restart(nil)
			checkSeen(t, w, want)
		}
	}
}

// 20.1: sectors that the transaction has already need no room; the first one that needs it ends it.
func TestSaveFullStaged(t *testing.T) {
	for mask := range 1 << 4 {
		_, w := begun(t, usual)
		for i := range 4 {
			if mask>>i&1 == 1 {
				checkErr(t, "Stage", w.Stage(10+i, filler(800+i)), api.OK)
			}
		}
		stageOthers(t, w, 16-bits.OnesCount(uint(mask)))
		data, done := sectorsOf(1, 4), bits.TrailingZeros(^uint(mask))
		want := with(seen(t, w, firstOfLog), 10, data[:64*done])
		e := api.OK
		if done < 4 {
			e = api.ErrFull
		}
		checkErr(t, "Save", Save(w, 10, data), e)
		checkSeen(t, w, want)
	}
}

// 20.1: of several errors of staging the first sector's is told.
func TestSaveFirst(t *testing.T) {
	_, w := begun(t, usual)
	stageOthers(t, w, 16) // the sector 34 is one of these
	checkErr(t, "Save, full", Save(w, firstOfLog-11, sectorsOf(1, 12)), api.ErrFull)
	checkErr(t, "Save, at the log", Save(w, firstOfLog-1, sectorsOf(2, 12)), api.ErrRange)
	checkErr(t, "Save, in the log", Save(w, firstOfLog, sectorsOf(3, 1)), api.ErrRange)
	checkLoad(t, w, firstOfLog-1, 1, sectorsOf(2, 1), api.OK)
	checkLoad(t, w, firstOfLog-11, 1, filler(firstOfLog-11), api.OK)
}
