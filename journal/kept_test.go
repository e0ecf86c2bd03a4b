package journal

import (
	"math/rand"
	"slices"
	"testing"

	"solder/api"
	"solder/disk"
	"solder/wal"
)

// markAlone marks an extent in a transaction of its own, with a checkpoint ahead if the log lacks room.
func markAlone(t testing.TB, w *wal.Wal, c api.Config, extent int, is bool) {
	t.Helper()
	if w.Room() < 2 {
		checkErr(t, "Checkpoint", w.Checkpoint(), api.OK)
	}
	checkErr(t, "Begin", w.Begin(), api.OK)
	checkErr(t, "Mark", Mark(w, c, extent, is), api.OK)
	checkErr(t, "Commit", w.Commit(), api.OK)
}

// 19.3: whatever others are marked, and in whichever order, one that is marked is so till it is not.
func TestKeeps(t *testing.T) {
	some := rand.New(rand.NewSource(19))
	eachConfig(func(c api.Config) {
		d, w := full(t, c, 0)
		were, want := seen(t, w, c), 0
		for i := range 100 {
			extent, is := some.Intn(c.Extents), some.Intn(2) == 0
			want = marked(want, extent, is)
			markAlone(t, w, c, extent, is)
			checkLoad(t, w, c, want, api.OK)
			if i%9 == 0 {
				checkSeen(t, w, c, with(were, c.Extents, want))
			}
			if i%30 == 0 {
				checkErr(t, "Flush", w.Flush(), api.OK)
				d.Restart(nil)
				w = opened(t, d, c)
			}
		}
		checkLoad(t, w, c, want, api.OK)
	})
}

// 19.3: all are marked, one by one, and each stays; and then, one by one, they are marked no more.
func TestKeepsAll(t *testing.T) {
	eachConfig(func(c api.Config) {
		_, w := full(t, c, 0)
		want := 0
		for _, is := range []bool{true, false} {
			for extent := range c.Extents {
				want ^= 1 << extent
				markAlone(t, w, c, extent, is)
				checkLoad(t, w, c, want, api.OK)
			}
		}
	})
}

// goesDown marks extents 1 and 8 no more, and 2 and 7, in a volume where 1, 4 and 8 are for sure, and flushes; at the k-th call of the disk the machine goes down. It answers the set that there is then, and whether the flush was done.
func goesDown(t *testing.T, k int, choices []int) (int, bool) {
	t.Helper()
	d, w := full(t, usual, before)
	checkLoad(t, w, usual, before, api.OK)
	checkErr(t, "Begin", w.Begin(), api.OK)
	checkErr(t, "Save", Save(w, usual, setOf(9, before)), api.OK) // so that it is seen over the disk, which need not be read then
	d.DownAt(d.Ops() + k)
	for extent := range 9 {
		checkErr(t, "Mark", Mark(w, usual, extent, behind>>extent&1 == 1), api.OK)
	}
	w.Commit()
	sure := w.Flush() == api.OK
	d.Restart(choices)
	s, e := Load(opened(t, d, usual), usual)
	checkErr(t, "Load", e, api.OK)
	return markedOf(s), sure
}

// The sets of goesDown.
const (
	before = 1<<1 | 1<<4 | 1<<8
	behind = 1<<2 | 1<<4 | 1<<7
)

// 19.3: wherever the machine goes down while extents are marked, all of it is so, or nothing; behind a flush all.
func TestGoesDown(t *testing.T) {
	for _, choices := range [][]int{nil, slices.Repeat([]int{1}, 40), {0, 1, 0, 1, 0, 1}, {1, 0, 1, 0, 1, 0}} {
		for k, sure := 1, false; !sure; k++ {
			var got int
			got, sure = goesDown(t, k, choices)
			if got != behind && (sure || got != before) {
				t.Errorf("down at %d: %b", k, got)
			}
		}
	}
}

// byWords is a volume's journal by the document's words, over a wal's sectors.
type byWords struct {
	c      api.Config
	d      *disk.Disk
	w      *wal.Wal
	were   []string     // of each sector but the log's what the last transaction made
	over   map[int]bool // sectors that are seen over the disk, till a checkpoint
	staged map[int]string
	active bool
}

// newByWords is a volume without a journal.
func newByWords(t testing.TB, c api.Config) *byWords {
	d, w := fresh(t, c)
	return &byWords{c: c, d: d, w: w, were: seen(t, w, c), over: map[int]bool{}, staged: map[int]string{}}
}

// at is what is seen in a sector, and whether it is seen over the disk.
func (m *byWords) at(i int) (string, bool) {
	if s, ok := m.staged[i]; ok {
		return s, true
	}
	return m.were[i], m.over[i]
}

// load is what Load comes to; the disk's next call has an error, or OK.
func (m *byWords) load(next api.Errno) (int, api.Errno) {
	s, over := m.at(1)
	if !over && next != api.OK {
		return 0, next
	}
	marked, e := getByWords(m.c.Extents, s)
	if e != api.OK {
		return 0, api.ErrCorrupt
	}
	return marked, api.OK
}

// stage is what the wal's Stage comes to.
func (m *byWords) stage(at int, s string) api.Errno {
	_, has := m.staged[at]
	switch {
	case !m.active:
		return api.ErrState
	case !has && len(m.staged) == 16:
		return api.ErrFull
	}
	m.staged[at] = s
	return api.OK
}

// save is what Save comes to.
func (m *byWords) save(many, marked int) api.Errno {
	if many != m.c.Extents {
		return api.ErrRange
	}
	return m.stage(1, sectorOf(many, marked))
}

// mark is what Mark comes to.
func (m *byWords) mark(extent int, is bool, next api.Errno) api.Errno {
	if extent < 0 || extent >= m.c.Extents {
		return api.ErrRange
	}
	was, e := m.load(next)
	if e != api.OK {
		return e
	}
	if will := marked(was, extent, is); will != was {
		return m.stage(1, sectorOf(m.c.Extents, will))
	}
	return api.OK
}

// check holds all that is seen against the document's words.
func (m *byWords) check(t testing.TB) {
	t.Helper()
	for at := range m.were {
		want, _ := m.at(at)
		if s, e := m.w.Read(at); s != want || e != api.OK {
			t.Fatalf("sector %d: %q, error %d, want %q", at, s, e, want)
		}
	}
	want, e := m.load(api.OK)
	checkLoad(t, m.w, m.c, want, e)
}

// failing lets the disk's next call fail, perhaps.
func (m *byWords) failing(i int) api.Errno {
	if i%8 != 0 {
		return api.OK
	}
	m.d.Fail(m.d.Ops() + 1)
	return api.ErrIO
}

// calm lets no call fail any more.
func (m *byWords) calm() { m.d.Read(0) }

// anyBytes is bytes for the journal's sector: such as say a set of the volume's, and such as say another one, or none.
func (m *byWords) anyBytes(next func() int) string {
	many := m.c.Extents
	if i := next(); i%8 == 0 {
		many = next() % 25
	}
	s := sectorOf(many, (next()|next()<<8|next()<<16)&all(many))
	if i := next(); i < 64 {
		return changed(s, i, byte(next()))
	}
	return s
}

// commit commits, with a checkpoint ahead if the log lacks room.
func (m *byWords) commit(t testing.TB) {
	t.Helper()
	if m.w.Room() <= len(m.staged) {
		m.checkpoint(t)
	}
	want := api.OK
	if !m.active {
		want = api.ErrState
	}
	checkErr(t, "Commit", m.w.Commit(), want)
	m.were = slices.Clone(m.were)
	for at, s := range m.staged {
		m.were[at], m.over[at] = s, true
	}
	m.ended()
}

// ended is what is so behind a transaction.
func (m *byWords) ended() { m.staged, m.active = map[int]string{}, false }

// checkpoint lays all down.
func (m *byWords) checkpoint(t testing.TB) {
	t.Helper()
	checkErr(t, "Checkpoint", m.w.Checkpoint(), api.OK)
	m.over = map[int]bool{}
}

// crash lets the disk begin again: behind a flush all that was committed is there; without one it is as what is seen then.
func (m *byWords) crash(t testing.TB, flush bool) {
	t.Helper()
	if flush {
		checkErr(t, "Flush", m.w.Flush(), api.OK)
	}
	m.d.Restart(nil)
	m.w = opened(t, m.d, m.c)
	m.over = map[int]bool{}
	m.ended()
	if !flush {
		m.were = seen(t, m.w, m.c)
	}
}

// begin begins a transaction.
func (m *byWords) begin(t testing.TB) {
	t.Helper()
	want := api.OK
	if m.active {
		want = api.ErrState
	}
	checkErr(t, "Begin", m.w.Begin(), want)
	m.active = true
}

// stepOf does the step that numbers say.
func (m *byWords) stepOf(t testing.TB, next func() int) {
	t.Helper()
	switch i := next() % 16; {
	case i < 3:
		m.begin(t)
	case i < 8:
		extent, is, fails := next()%28-2, next()%2 == 0, m.failing(next())
		checkErr(t, "Mark", Mark(m.w, m.c, extent, is), m.mark(extent, is, fails))
		m.calm()
	case i == 8:
		many, marked := m.c.Extents, next()|next()<<8|next()<<16
		if next()%4 == 0 {
			many = next() % 30
		}
		marked &= all(many)
		checkErr(t, "Save", Save(m.w, m.c, setOf(many, marked)), m.save(many, marked))
	case i == 9:
		s := m.anyBytes(next)
		checkErr(t, "Stage", m.w.Stage(1, s), m.stage(1, s))
	case i == 10:
		for at := range next() % 20 {
			at = len(m.were) - 1 - at
			checkErr(t, "Stage", m.w.Stage(at, filler(at+1)), m.stage(at, filler(at+1)))
		}
	case i == 11:
		want, e := m.load(m.failing(next()))
		checkLoad(t, m.w, m.c, want, e)
		m.calm()
	case i < 14:
		m.commit(t)
	case i == 14:
		m.w.Abort()
		m.ended()
	case next()%3 == 0:
		m.checkpoint(t)
	default:
		m.crash(t, next()%2 == 0)
	}
}

// played does the steps that bytes say.
func played(t testing.TB, b []byte) {
	t.Helper()
	next := func() int {
		if len(b) == 0 {
			return 0
		}
		x := int(b[0])
		b = b[1:]
		return x
	}
	m := newByWords(t, api.Config{Extents: 1 + next()%24, Slots: 8, Log: 24 + next()%10})
	m.begin(t)
	checkErr(t, "Save", Save(m.w, m.c, setOf(m.c.Extents, 0)), m.save(m.c.Extents, 0))
	for len(b) > 0 {
		m.stepOf(t, next)
		m.check(t)
	}
}

// anySteps is bytes that say steps, others of each seed.
func anySteps(seed int) []byte {
	r := rand.New(rand.NewSource(int64(seed)))
	b := make([]byte, 200+r.Intn(400))
	r.Read(b)
	return b
}

// P1, 19.2, 19.3: whatever is done, in any order, a journal is what the document's words say.
func TestAnything(t *testing.T) {
	for seed := range 300 {
		played(t, anySteps(seed))
		if t.Failed() {
			t.Fatalf("seed %d", seed)
		}
	}
}

// 19.3: two volumes' journals know nothing of each other, as all that is kept is in the wal.
func TestApart(t *testing.T) {
	_, one := begun(t, usual, 0)
	_, other := begun(t, usual, 1<<8)
	checkErr(t, "Mark", Mark(one, usual, 2, true), api.OK)
	checkErr(t, "Mark", Mark(other, usual, 8, false), api.OK)
	checkErr(t, "Mark", Mark(other, usual, 3, true), api.OK)
	checkLoad(t, one, usual, 1<<2, api.OK)
	checkLoad(t, other, usual, 1<<3, api.OK)
	one.Abort()
	checkLoad(t, one, usual, 0, api.OK)
	checkLoad(t, other, usual, 1<<3, api.OK)
}

// P1, and all promises, whatever is done.
func FuzzJournals(f *testing.F) {
	f.Add([]byte("which extents have changed"))
	for seed := range 5 {
		f.Add(anySteps(seed))
	}
	f.Fuzz(func(t *testing.T, b []byte) {
		if len(b) > 2000 {
			return
		}
		played(t, b)
	})
}
