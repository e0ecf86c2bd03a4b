package table

import (
	"maps"
	"math/rand"
	"slices"
	"testing"

	"solder/api"
	"solder/disk"
	"solder/wal"
)

// committed is a volume whose table was formatted and committed, with entries that were put in it.
func committed(t testing.TB, c api.Config, entries []api.Entry) (*disk.Disk, *wal.Wal, *Table) {
	t.Helper()
	d, w, x := fresh(t, c)
	checkErr(t, "Begin", w.Begin(), api.OK)
	checkErr(t, "Format", x.Format(), api.OK)
	for extent, one := range entries {
		checkErr(t, "Put", x.Put(extent, one), api.OK)
	}
	checkErr(t, "Commit", w.Commit(), api.OK)
	return d, w, x
}

// 18.2: whatever others are given, and in whichever order, an extent has the entry that it was given last.
func TestKeeps(t *testing.T) {
	some := rand.New(rand.NewSource(18))
	eachConfig(func(c api.Config) {
		_, w, x := committed(t, c, nil)
		want := unchanged(c.Extents)
		for i := range 100 {
			extent := some.Intn(c.Extents)
			want[extent] = right[some.Intn(len(right))]
			checkErr(t, "Begin", w.Begin(), api.OK)
			checkErr(t, "Put", x.Put(extent, want[extent]), api.OK)
			if w.Room() < 2 {
				checkErr(t, "Checkpoint", w.Checkpoint(), api.OK)
			}
			checkErr(t, "Commit", w.Commit(), api.OK)
			if i%9 == 0 {
				checkAll(t, x, want)
			}
		}
		checkAll(t, x, want)
	})
}

// 18.2: two tables of one volume have the same entries, as they are the volume's and not the table's.
func TestKeepsTwo(t *testing.T) {
	_, w, x := committed(t, usual, nths(5))
	y := New(w, usual)
	checkErr(t, "Begin", w.Begin(), api.OK)
	checkErr(t, "Put", x.Put(3, right[3]), api.OK)
	checkErr(t, "Put", y.Put(2, right[4]), api.OK)
	for _, one := range []*Table{x, y} {
		checkAll(t, one, []api.Entry{nth(0), nth(1), right[4], right[3], nth(4)})
	}
	w.Abort()
	for _, one := range []*Table{x, y} {
		checkAll(t, one, nths(5))
	}
}

// goesDown puts other entries in the place of those that are sure, and flushes; at the k-th call of the disk the machine goes down. It answers all entries that there are then, and whether the flush was done.
func goesDown(t *testing.T, others []api.Entry, k int, choices []int) ([]api.Entry, bool) {
	t.Helper()
	d, w, x := committed(t, usual, nths(5))
	checkErr(t, "Flush", w.Flush(), api.OK)
	d.DownAt(d.Ops() + k)
	checkErr(t, "Begin", w.Begin(), api.OK)
	for extent, one := range others {
		checkErr(t, "Put", x.Put(extent, one), api.OK) // over the disk, as all of the table was committed
	}
	w.Commit()
	sure := w.Flush() == api.OK
	d.Restart(choices)
	l, e := New(opened(t, d, usual), usual).All()
	checkErr(t, "All", e, api.OK)
	return l, sure
}

// 18.2: wherever the machine goes down while entries are put, all are there, or none; behind a flush all.
func TestGoesDown(t *testing.T) {
	others := []api.Entry{right[3], right[4], right[5], right[6], right[7]}
	for _, choices := range [][]int{nil, slices.Repeat([]int{1}, 40), {0, 1, 0, 1, 0, 1}, {1, 0, 1, 0, 1, 0}} {
		for k, sure := 1, false; !sure; k++ {
			var l []api.Entry
			l, sure = goesDown(t, others, k, choices)
			if !slices.Equal(l, others) && (sure || !slices.Equal(l, nths(5))) {
				t.Errorf("down at %d: %v", k, l)
			}
		}
	}
}

// byWords is a volume's table by the document's words, over a wal's sectors.
type byWords struct {
	c      api.Config
	d      *disk.Disk
	w      *wal.Wal
	x      *Table
	were   []string     // of each sector but the log's what the last transaction made
	over   map[int]bool // sectors that are seen over the disk, till a checkpoint
	staged map[int]string
	active bool
}

// newByWords is a volume without a table.
func newByWords(t testing.TB, c api.Config) *byWords {
	d, w, x := fresh(t, c)
	were := seen(t, w, c)
	return &byWords{c: c, d: d, w: w, x: x, were: were, over: map[int]bool{}, staged: map[int]string{}}
}

// at is what is seen in a sector, and whether it is seen over the disk.
func (m *byWords) at(i int) (string, bool) {
	if s, ok := m.staged[i]; ok {
		return s, true
	}
	return m.were[i], m.over[i]
}

// get is what Get comes to; the disk's next call has an error, or OK.
func (m *byWords) get(extent int, next api.Errno) (api.Entry, api.Errno) {
	if extent < 0 || extent >= m.c.Extents {
		return api.Entry{}, api.ErrRange
	}
	s, over := m.at(2 + extent/2)
	if !over && next != api.OK {
		return api.Entry{}, next
	}
	pair, ok := entriesOf(s)
	if !ok {
		return api.Entry{}, api.ErrCorrupt
	}
	return pair[extent%2], api.OK
}

// stage is what the wal's Stage comes to.
func (m *byWords) stage(at int, s string) api.Errno {
	_, has := m.staged[at]
	switch {
	case !m.active:
		return api.ErrState
	case !has && len(m.staged) == 16:
		return api.ErrFull
	}
	m.staged[at] = s
	return api.OK
}

// put is what Put comes to.
func (m *byWords) put(extent int, x api.Entry, next api.Errno) api.Errno {
	if extent < 0 || extent >= m.c.Extents || !mayBe(x) {
		return api.ErrRange
	}
	if _, e := m.get(extent, next); e != api.OK {
		return e
	}
	s, _ := m.at(2 + extent/2)
	pair, _ := entriesOf(s)
	pair[extent%2] = x
	return m.stage(2+extent/2, sectorOf(pair[0], pair[1]))
}

// format is what Format comes to.
func (m *byWords) format() api.Errno {
	was := maps.Clone(m.staged)
	for first := 0; first < m.c.Extents; first += 2 {
		if e := m.stage(2+first/2, blank); e != api.OK {
			m.staged = was
			return e
		}
	}
	return api.OK
}

// check holds all that the table tells against the document's words.
func (m *byWords) check(t testing.TB) {
	t.Helper()
	for at := range m.were {
		want, _ := m.at(at)
		if s, e := m.w.Read(at); s != want || e != api.OK {
			t.Fatalf("sector %d: %q, error %d, want %q", at, s, e, want)
		}
	}
	var want []api.Entry
	wantE := api.OK
	for extent := range m.c.Extents {
		one, e := m.get(extent, api.OK)
		checkGet(t, m.x, extent, one, e)
		want = append(want, one)
		if wantE == api.OK {
			wantE = e
		}
	}
	if wantE != api.OK {
		want = nil
	}
	if l, e := m.x.All(); e != wantE || !slices.Equal(l, want) {
		t.Fatalf("All = %v, %d, want %v, %d", l, e, want, wantE)
	}
}

// anyEntry is an entry that numbers say: most may be.
func anyEntry(next func() int) api.Entry {
	if i := next(); i < 200 {
		return right[i%len(right)]
	}
	return wrong[next()%len(wrong)]
}

// anyBytes is bytes for a sector of the table: such as say entries, and such as say none.
func anyBytes(next func() int) string {
	s := sectorOf(nth(next()), nth(next()))
	if i := next(); i < 64 {
		return changed(s, i, byte(next()))
	}
	return s
}

// failing lets the disk's next call fail, perhaps.
func (m *byWords) failing(i int) api.Errno {
	if i%8 != 0 {
		return api.OK
	}
	m.d.Fail(m.d.Ops() + 1)
	return api.ErrIO
}

// calm lets no call fail any more.
func (m *byWords) calm() { m.d.Read(0) }

// commit commits, with a checkpoint ahead if the log lacks room.
func (m *byWords) commit(t testing.TB) {
	t.Helper()
	if m.w.Room() <= len(m.staged) {
		m.checkpoint(t)
	}
	want := api.OK
	if !m.active {
		want = api.ErrState
	}
	checkErr(t, "Commit", m.w.Commit(), want)
	m.were = slices.Clone(m.were)
	for at, s := range m.staged {
		m.were[at], m.over[at] = s, true
	}
	m.ended()
}

// ended is what is so behind a transaction.
func (m *byWords) ended() { m.staged, m.active = map[int]string{}, false }

// checkpoint lays all down.
func (m *byWords) checkpoint(t testing.TB) {
	t.Helper()
	checkErr(t, "Checkpoint", m.w.Checkpoint(), api.OK)
	m.over = map[int]bool{}
}

// crash lets the disk begin again: behind a flush all that was committed is there; without one it is as what is seen then.
func (m *byWords) crash(t testing.TB, flush bool) {
	t.Helper()
	if flush {
		checkErr(t, "Flush", m.w.Flush(), api.OK)
	}
	m.d.Restart(nil)
	m.w = opened(t, m.d, m.c)
	m.x = New(m.w, m.c)
	m.over = map[int]bool{}
	m.ended()
	if !flush {
		m.were = seen(t, m.w, m.c)
	}
}

// formatBoth formats. Where there is no room all is seen as it was, but which sectors the transaction has is not told: so it is over.
func (m *byWords) formatBoth(t testing.TB) {
	t.Helper()
	want := m.format()
	checkErr(t, "Format", m.x.Format(), want)
	if want == api.ErrFull {
		m.check(t)
		m.w.Abort()
		m.ended()
	}
}

// stepOf does the step that numbers say.
func (m *byWords) stepOf(t testing.TB, next func() int) {
	t.Helper()
	switch i := next() % 16; {
	case i < 2:
		want := api.OK
		if m.active {
			want = api.ErrState
		}
		checkErr(t, "Begin", m.w.Begin(), want)
		m.active = true
	case i < 8:
		extent, one, fails := next()%28-2, anyEntry(next), m.failing(next())
		checkErr(t, "Put", m.x.Put(extent, one), m.put(extent, one, fails))
		m.calm()
	case i == 8:
		m.formatBoth(t)
	case i == 9:
		at, s := 2+next()%((m.c.Extents+1)/2), anyBytes(next)
		checkErr(t, "Stage", m.w.Stage(at, s), m.stage(at, s))
	case i == 10:
		for at := range next() % 20 {
			at = len(m.were) - 1 - at
			checkErr(t, "Stage", m.w.Stage(at, filler(at+1)), m.stage(at, filler(at+1)))
		}
	case i == 11:
		extent, fails := next()%28-2, m.failing(next())
		want, e := m.get(extent, fails)
		checkGet(t, m.x, extent, want, e)
		m.calm()
	case i < 14:
		m.commit(t)
	case i == 14:
		m.w.Abort()
		m.ended()
	case next()%3 == 0:
		m.checkpoint(t)
	default:
		m.crash(t, next()%2 == 0)
	}
}

// played does the steps that bytes say.
func played(t testing.TB, b []byte) {
	t.Helper()
	next := func() int {
		if len(b) == 0 {
			return 0
		}
		x := int(b[0])
		b = b[1:]
		return x
	}
	m := newByWords(t, api.Config{Extents: 1 + next()%24, Slots: 8, Log: 24 + next()%10})
	for len(b) > 0 {
		m.stepOf(t, next)
		m.check(t)
	}
}

// P1, 18.1, 18.2: whatever is done, in any order, a table is what the document's words say.
func TestAnything(t *testing.T) {
	for seed := range 300 {
		r := rand.New(rand.NewSource(int64(seed)))
		b := make([]byte, 200+r.Intn(400))
		r.Read(b)
		played(t, b)
		if t.Failed() {
			t.Fatalf("seed %d", seed)
		}
	}
}

// P1, and all promises, whatever is done.
func FuzzTables(f *testing.F) {
	f.Add([]byte("a table of entries, and others"))
	for seed := range 5 {
		r := rand.New(rand.NewSource(int64(seed)))
		b := make([]byte, 200)
		r.Read(b)
		f.Add(b)
	}
	f.Fuzz(func(t *testing.T, b []byte) {
		if len(b) > 2000 {
			return
		}
		played(t, b)
	})
}
