package extent

import (
	"math/rand"
	"slices"
	"testing"

	"solder/api"
	"solder/disk"
	"solder/wal"
)

// extentsOf is what all extents have, out of what sectors have.
func extentsOf(c api.Config, sectors []string) []string {
	var l []string
	for extent := range c.Extents {
		at := placeOf(c, extent)
		l = append(l, sectors[at]+sectors[at+1])
	}
	return l
}

// checkReads sees that all extents have the bytes that they have to have.
func checkReads(t testing.TB, w *wal.Wal, c api.Config, want []string) {
	t.Helper()
	for extent, data := range want {
		checkRead(t, w, c, extent, data, api.OK)
	}
}

// 20.3: whatever others are given, and in whichever order, an extent has the bytes that it was given last.
func TestKeeps(t *testing.T) {
	some := rand.New(rand.NewSource(20))
	eachConfig(func(c api.Config) {
		d, w := fresh(t, c)
		want := extentsOf(c, seen(t, w, placeOf(c, c.Extents)))
		for i := range 100 {
			if w.Room() < 17 {
				checkErr(t, "Checkpoint", w.Checkpoint(), api.OK)
			}
			checkErr(t, "Begin", w.Begin(), api.OK)
			for j := range 1 + some.Intn(8) {
				extent := some.Intn(c.Extents)
				want[extent] = bytesOf(10*i+j, 128)
				checkErr(t, "Stage", Stage(w, c, extent, want[extent]), api.OK)
				checkRead(t, w, c, extent, want[extent], api.OK)
			}
			checkErr(t, "Commit", w.Commit(), api.OK)
			if i%9 == 0 {
				checkReads(t, w, c, want)
			}
			if i%30 == 0 {
				checkErr(t, "Flush", w.Flush(), api.OK)
				d.Restart(nil)
				w = opened(t, d, c)
			}
		}
		checkReads(t, w, c, want)
	})
}

// 20.3: two volumes know nothing of each other, as all that is kept is in the wal.
func TestApart(t *testing.T) {
	_, one := begun(t, usual)
	_, other := begun(t, usual)
	checkErr(t, "Stage", Stage(one, usual, 2, bytesOf(1, 128)), api.OK)
	checkErr(t, "Stage", Stage(other, usual, 2, bytesOf(2, 128)), api.OK)
	checkRead(t, one, usual, 2, bytesOf(1, 128), api.OK)
	one.Abort()
	checkRead(t, one, usual, 2, filler(11)+filler(12), api.OK)
	checkRead(t, other, usual, 2, bytesOf(2, 128), api.OK)
}

// goesDown gives the extents 1, 4 and 8 other bytes, and flushes; at the k-th call of the disk the machine goes down. It answers what all extents have then, and whether the flush was done.
func goesDown(t *testing.T, k int, choices []int) ([]string, bool) {
	t.Helper()
	d, w := begun(t, usual)
	d.DownAt(d.Ops() + k)
	for _, extent := range []int{1, 4, 8} {
		checkErr(t, "Stage", Stage(w, usual, extent, bytesOf(extent, 128)), api.OK)
	}
	w.Commit()
	sure := w.Flush() == api.OK
	d.Restart(choices)
	return extentsOf(usual, seen(t, opened(t, d, usual), firstOfLog)), sure
}

// 20.3: wherever the machine goes down while extents are given bytes, all have them, or none; behind a flush all.
func TestGoesDown(t *testing.T) {
	_, w := fresh(t, usual)
	before := extentsOf(usual, seen(t, w, firstOfLog))
	behind := slices.Clone(before)
	for _, extent := range []int{1, 4, 8} {
		behind[extent] = bytesOf(extent, 128)
	}
	for _, choices := range [][]int{nil, slices.Repeat([]int{1}, 40), {0, 1, 0, 1, 0, 1}, {1, 0, 1, 0, 1, 0}} {
		for k, sure := 1, false; !sure; k++ {
			var got []string
			got, sure = goesDown(t, k, choices)
			if !slices.Equal(got, behind) && (sure || !slices.Equal(got, before)) {
				t.Errorf("down at %d: %q", k, got)
			}
		}
	}
}

// byWords is a volume's extents by the document's words, over a wal's sectors.
type byWords struct {
	c      api.Config
	d      *disk.Disk
	w      *wal.Wal
	were   []string     // of each sector but the log's what the last transaction made
	over   map[int]bool // sectors that are seen over the disk, till a checkpoint
	staged map[int]string
	active bool
	given  int // how often bytes were made
}

// newByWords is a volume.
func newByWords(t testing.TB, c api.Config) *byWords {
	d, w := fresh(t, c)
	were := seen(t, w, d.Sectors()-c.Log)
	return &byWords{c: c, d: d, w: w, were: were, over: map[int]bool{}, staged: map[int]string{}}
}

// at is what is seen in a sector, and whether it is seen over the disk.
func (m *byWords) at(i int) (string, bool) {
	if s, ok := m.staged[i]; ok {
		return s, true
	}
	return m.were[i], m.over[i]
}

// load is what Load of sectors that are none of the log's comes to; the disk's next call has an error, or OK.
func (m *byWords) load(at, many int, next api.Errno) (string, api.Errno) {
	if many < 0 || many > 16 {
		return "", api.ErrRange
	}
	s := ""
	for i := at; i < at+many; i++ {
		if i < 0 {
			if next != api.OK {
				return "", next
			}
			return "", api.ErrRange
		}
		one, over := m.at(i)
		if !over && next != api.OK {
			return "", next
		}
		s += one
	}
	return s, api.OK
}

// save is what Save comes to.
func (m *byWords) save(at int, data string) api.Errno {
	if data == "" || len(data) > 1024 || len(data)%64 != 0 {
		return api.ErrSize
	}
	for ; data != ""; at, data = at+1, data[64:] {
		_, has := m.staged[at]
		switch {
		case !m.active:
			return api.ErrState
		case at < 0 || at >= len(m.were):
			return api.ErrRange
		case !has && len(m.staged) == 16:
			return api.ErrFull
		}
		m.staged[at] = data[:64]
	}
	return api.OK
}

// read is what Read comes to.
func (m *byWords) read(extent int, next api.Errno) (string, api.Errno) {
	if extent < 0 || extent >= m.c.Extents {
		return "", api.ErrRange
	}
	return m.load(placeOf(m.c, extent), 2, next)
}

// stage is what Stage comes to.
func (m *byWords) stage(extent int, data string) api.Errno {
	if extent < 0 || extent >= m.c.Extents {
		return api.ErrRange
	}
	if len(data) != 128 {
		return api.ErrSize
	}
	return m.save(placeOf(m.c, extent), data)
}

// check holds all that is seen against the document's words.
func (m *byWords) check(t testing.TB) {
	t.Helper()
	for at := range m.were {
		want, _ := m.at(at)
		checkLoad(t, m.w, at, 1, want, api.OK)
	}
	for extent := range m.c.Extents {
		want, e := m.read(extent, api.OK)
		checkRead(t, m.w, m.c, extent, want, e)
	}
}

// failing lets the disk's next call fail, perhaps.
func (m *byWords) failing(i int) api.Errno {
	if i%8 != 0 {
		return api.OK
	}
	m.d.Fail(m.d.Ops() + 1)
	return api.ErrIO
}

// calm lets no call fail any more.
func (m *byWords) calm() { m.d.Read(0) }

// bytes is so many bytes that no others are alike.
func (m *byWords) bytes(length int) string {
	m.given++
	return bytesOf(m.given, length)
}

// lengthNear is a number of bytes that is near so many, or just that.
func lengthNear(length int, next func() int) int {
	if i := next(); i%8 == 0 {
		return max(0, length+next()%129-64)
	}
	return length
}

// commit commits, with a checkpoint ahead if the log lacks room.
func (m *byWords) commit(t testing.TB) {
	t.Helper()
	if m.w.Room() <= len(m.staged) {
		m.checkpoint(t)
	}
	want := api.OK
	if !m.active {
		want = api.ErrState
	}
	checkErr(t, "Commit", m.w.Commit(), want)
	m.were = slices.Clone(m.were)
	for at, s := range m.staged {
		m.were[at], m.over[at] = s, true
	}
	m.ended()
}

// ended is what is so behind a transaction.
func (m *byWords) ended() { m.staged, m.active = map[int]string{}, false }

// checkpoint lays all down.
func (m *byWords) checkpoint(t testing.TB) {
	t.Helper()
	checkErr(t, "Checkpoint", m.w.Checkpoint(), api.OK)
	m.over = map[int]bool{}
}

// crash lets the disk begin again: behind a flush all that was committed is there; without one it is as what is seen then.
func (m *byWords) crash(t testing.TB, flush bool) {
	t.Helper()
	if flush {
		checkErr(t, "Flush", m.w.Flush(), api.OK)
	}
	m.d.Restart(nil)
	m.w = opened(t, m.d, m.c)
	m.over = map[int]bool{}
	m.ended()
	if !flush {
		m.were = seen(t, m.w, len(m.were))
	}
}

// begin begins a transaction.
func (m *byWords) begin(t testing.TB) {
	t.Helper()
	want := api.OK
	if m.active {
		want = api.ErrState
	}
	checkErr(t, "Begin", m.w.Begin(), want)
	m.active = true
}

// loaded loads sectors, with a disk that fails, perhaps.
func (m *byWords) loaded(t testing.TB, next func() int) {
	t.Helper()
	many := next()%21 - 2
	at := next()%(len(m.were)+2) - 2
	if at+many > len(m.were) {
		at = len(m.were) - many
	}
	fails := m.failing(next())
	want, e := m.load(at, many, fails)
	checkLoad(t, m.w, at, many, want, e)
	m.calm()
}

// disturbed is a checkpoint, or a crash; mostly it is none, so that the log fills.
func (m *byWords) disturbed(t testing.TB, i int) {
	t.Helper()
	switch i {
	case 0:
		m.checkpoint(t)
	case 1, 2:
		m.crash(t, i == 1)
	}
}

// stepOf does the step that numbers say.
func (m *byWords) stepOf(t testing.TB, next func() int) {
	t.Helper()
	switch i := next() % 16; {
	case i < 3:
		m.begin(t)
	case i < 7:
		extent, data := next()%28-2, m.bytes(lengthNear(128, next))
		checkErr(t, "Stage", Stage(m.w, m.c, extent, data), m.stage(extent, data))
	case i == 7:
		at, data := next()%(len(m.were)+4)-2, m.bytes(lengthNear(64*(next()%18), next))
		checkErr(t, "Save", Save(m.w, at, data), m.save(at, data))
	case i == 8:
		m.loaded(t, next)
	case i < 11:
		extent, fails := next()%28-2, m.failing(next())
		want, e := m.read(extent, fails)
		checkRead(t, m.w, m.c, extent, want, e)
		m.calm()
	case i < 14:
		m.commit(t)
	case i == 14:
		m.w.Abort()
		m.ended()
	default:
		m.disturbed(t, next()%12)
	}
}

// played does the steps that bytes say.
func played(t testing.TB, b []byte) {
	t.Helper()
	next := func() int {
		if len(b) == 0 {
			return 0
		}
		x := int(b[0])
		b = b[1:]
		return x
	}
	m := newByWords(t, api.Config{Extents: 1 + next()%24, Slots: 1 + next()%8, Log: 24 + next()%10})
	for len(b) > 0 {
		m.stepOf(t, next)
		m.check(t)
	}
}

// anySteps is bytes that say steps, others of each seed.
func anySteps(seed int) []byte {
	r := rand.New(rand.NewSource(int64(seed)))
	b := make([]byte, 200+r.Intn(400))
	r.Read(b)
	return b
}

// P1, 20.1, 20.2, 20.3: whatever is done, in any order, extents' bytes are what the document's words say.
func TestAnything(t *testing.T) {
	for seed := range 300 {
		played(t, anySteps(seed))
		if t.Failed() {
			t.Fatalf("seed %d", seed)
		}
	}
}

// P1: all arguments, of each call: it ends, and what it answers has an error of the document's, and then no bytes.
func FuzzExtents(f *testing.F) {
	f.Add([]byte("extents' bytes"), 0, 2, usual.Extents, usual.Slots, usual.Log)
	for seed := range 5 {
		f.Add(anySteps(seed), seed, 16+seed, 9*seed, seed, 12*seed)
	}
	f.Fuzz(func(t *testing.T, b []byte, at, many, extents, slots, log int) {
		if len(b) > 2000 {
			return
		}
		played(t, b)
		_, w := begun(t, usual)
		c := api.Config{Extents: extents, Slots: slots, Log: log}
		for i, w := range []*wal.Wal{w, nil, {}} {
			saved, staged := Save(w, at, string(b)), Stage(w, c, at, string(b))
			s, e := Load(w, at, many)
			checkAnswer(t, s, e, 64*many)
			s, e = Read(w, c, at)
			checkAnswer(t, s, e, 128)
			if staged == api.OK && (s != string(b) || e != api.OK) {
				t.Errorf("Read = %q, %d, want %q", s, e, b)
			}
			if i > 0 && (saved == api.OK || staged == api.OK) {
				t.Errorf("without a log: Save %d, Stage %d", saved, staged)
			}
		}
	})
}

// checkAnswer sees that there are so many bytes, or an error and none.
func checkAnswer(t *testing.T, s string, e api.Errno, length int) {
	t.Helper()
	if e != api.OK {
		length = 0
	}
	if len(s) != length {
		t.Errorf("%d bytes, error %d, want %d", len(s), e, length)
	}
}
