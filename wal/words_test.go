package wal

import (
	"encoding/binary"
	"maps"
	"math"
	"slices"
	"strings"
	"testing"

	"solder/api"
	"solder/cyclic"
	"solder/disk"
	"solder/loghead"
	"solder/logrec"
	"solder/logscan"
	"solder/region"
)

// top is the greatest number of heads and records.
const top = 1<<48 - 1

// Numbers that are no sector of any disk, and no log's size, also such as wrap round if something is added.
var far = []int{-1, -2, -64, -1000, -1 << 32, math.MinInt, math.MinInt + 1, 1000, 1001, 1 << 32, 1<<32 + 24, math.MaxInt/2 + 1, math.MaxInt - 1, math.MaxInt}

// Numbers of bytes that are no sector.
var partial = []int{0, 1, 2, 63, 65, 127, 128, 129, 640}

// place is where a log is: on a disk of so many sectors, from one on, so many.
type place struct{ disk, from, many int }

// usual is the log of most tests: its sectors are 10 to 33, those of its records 12 to 33.
var usual = place{40, 10, 24}

// Logs at the edges of disks, and of each size that is an edge.
var logs = []place{usual, {24, 0, 24}, {25, 0, 24}, {25, 1, 24}, {60, 0, 31}, {60, 29, 31}, {200, 0, 200}, {1000, 0, 200}, {1000, 800, 200}, {1000, 976, 24}, {1000, 400, 199}}

// filler is what a sector has ahead of all tests: bytes of its own.
func filler(at int) string { return string([]byte{byte(at), byte(at >> 8)}) + strings.Repeat("f", 62) }

// text is bytes for a sector that the n-th transaction has: no other one has these. All texts have the sum of a sector of 0, so that with any of them in the place of another one a record's sum is right.
func text(n, at int) string {
	s := "t" + string([]byte{byte(n), byte(n >> 8), byte(n >> 16), byte(at), byte(at >> 8)})
	return summed(s+strings.Repeat("t", 60-len(s)), cyclic.Of(noughts(1)))
}

// summed is bytes, and four more behind them, that all together have a sum.
func summed(s string, sum int) string {
	// The 32 steps of the last four bytes (3.1) are gone back: a step's place at the top is 1 only where its lowest bit was.
	x := ^uint32(sum)
	for range 32 {
		if x>>31 == 0 {
			x <<= 1
		} else {
			x = (x^0xEDB88320)<<1 | 1
		}
	}
	return string(binary.LittleEndian.AppendUint32([]byte(s), x^^uint32(cyclic.Of(s))))
}

// likeRecord is a sector of data that is, byte by byte, the first one of a record of a number, which nobody commits; with any texts behind it that record's sum is right.
func likeRecord(t testing.TB, seq int, ats ...int) string {
	t.Helper()
	var l []api.Sector
	for _, at := range ats {
		l = append(l, api.Sector{At: at, Data: text(0, at)})
	}
	s, e := logrec.Put(seq, l)
	checkErr(t, "Put of a record", e, api.OK)
	return s[:64]
}

// noughts is so many sectors of 0.
func noughts(many int) string { return strings.Repeat("\x00", 64*many) }

// checkErr sees that an error is the one that is asked for.
func checkErr(t testing.TB, what string, got, want api.Errno) {
	t.Helper()
	if got != want {
		t.Fatalf("%s: error %d, want %d", what, got, want)
	}
}

// filled is a disk of so many sectors, with fillers for sure.
func filled(t testing.TB, sectors int) *disk.Disk {
	t.Helper()
	d := disk.New(sectors)
	for at := range sectors {
		checkErr(t, "Write of the disk", d.Write(at, filler(at)), api.OK)
	}
	checkErr(t, "Flush of the disk", d.Flush(), api.OK)
	return d
}

// sectorsOn is all bytes that are seen on a disk.
func sectorsOn(t testing.TB, d *disk.Disk) []string {
	t.Helper()
	var l []string
	for at := range d.Sectors() {
		s, e := d.Read(at)
		checkErr(t, "Read of the disk", e, api.OK)
		l = append(l, s)
	}
	return l
}

// checkDisk sees that the disk has just these bytes.
func checkDisk(t testing.TB, d *disk.Disk, want []string) {
	t.Helper()
	got := sectorsOn(t, d)
	for at := range want {
		if got[at] != want[at] {
			t.Errorf("sector %d: %q, want %q", at, got[at], want[at])
		}
	}
}

// checkSure sees that nothing waits, and that the disk has just these bytes.
func checkSure(t testing.TB, d *disk.Disk, want []string) {
	t.Helper()
	if d.Waits() != 0 {
		t.Errorf("%d writes wait", d.Waits())
	}
	checkDisk(t, d, want)
}

// part is sectors of a disk, as a region.
func part(t testing.TB, d *disk.Disk, from, many int) *region.Region {
	t.Helper()
	r, e := region.New(d, from, many)
	checkErr(t, "New of a region", e, api.OK)
	return r
}

// headOf is a head as a sector.
func headOf(t testing.TB, gen, seq, at int) string {
	t.Helper()
	s, e := loghead.Put(loghead.Head{Gen: gen, Seq: seq, At: at})
	checkErr(t, "Put of a head", e, api.OK)
	return s
}

// layHead lays a head into the sector that is for it.
func layHead(t testing.TB, d *disk.Disk, p place, gen, seq, at int) {
	t.Helper()
	checkErr(t, "Write of a head", d.Write(p.from+gen%2, headOf(t, gen, seq, at)), api.OK)
}

// layRecord lays a record into the log, and answers of how many sectors it is.
func layRecord(t testing.TB, d *disk.Disk, p place, at, seq int, l ...api.Sector) int {
	t.Helper()
	s, e := logrec.Put(seq, l)
	checkErr(t, "Put of a record", e, api.OK)
	checkErr(t, "Put into the log", logscan.Put(part(t, d, p.from+2, p.many-2), at, s), api.OK)
	return len(s) / 64
}

// headOn is the head that counts.
func headOn(t testing.TB, d *disk.Disk, p place) loghead.Head {
	t.Helper()
	s, e := part(t, d, p.from, 2).Read(0, 2)
	checkErr(t, "Read of the heads", e, api.OK)
	h, e := loghead.Newer(s[:64], s[64:])
	checkErr(t, "Newer", e, api.OK)
	if got, e := loghead.Get(s[64*(h.Gen%2):][:64]); got != h || e != api.OK {
		t.Errorf("the head %v stands in the wrong sector", h)
	}
	return h
}

// recordsOn is all records from a head on.
func recordsOn(t testing.TB, d *disk.Disk, p place, h loghead.Head) []logscan.Record {
	t.Helper()
	var l []logscan.Record
	e := logscan.Each(part(t, d, p.from+2, p.many-2), h.At, h.Seq, func(x logscan.Record) bool {
		l = append(l, x)
		return true
	})
	checkErr(t, "Each", e, api.OK)
	return l
}

// checkHead sees which head counts.
func checkHead(t testing.TB, d *disk.Disk, p place, gen, seq, at int) {
	t.Helper()
	if h, want := headOn(t, d, p), (loghead.Head{Gen: gen, Seq: seq, At: at}); h != want {
		t.Errorf("the head is %v, want %v", h, want)
	}
}

// byWords is a wal by the document's words.
type byWords struct {
	place
	seen    []string // of each sector what the last transaction that has it made, else what the disk had
	staged  map[int]string
	active  bool
	sure    bool
	head    loghead.Head
	records []map[int]string // of the log, from its head on
	used    int              // how many sectors these have
	made    [][]string       // what was seen behind each transaction, from the last that is sure on
	// underWay is the transaction at whose Commit the disk went down.
	underWay map[int]string
}

// opened opens a log, and sees that what was on the disk is there.
func opened(t testing.TB, d *disk.Disk, p place) (*Wal, *byWords) {
	t.Helper()
	m := &byWords{place: p, staged: map[int]string{}, sure: true}
	h := headOn(t, d, p)
	records := recordsOn(t, d, p, h)
	m.seen = sectorsOn(t, d)
	for _, x := range records {
		for _, s := range x.Sectors {
			m.seen[s.At] = s.Data
		}
	}
	m.head = loghead.Head{Gen: h.Gen + 1, Seq: h.Seq + len(records) + p.many}
	m.made = [][]string{slices.Clone(m.seen)}
	w, e := Open(d, p.from, p.many)
	checkErr(t, "Open", e, api.OK)
	checkHead(t, d, p, m.head.Gen, m.head.Seq, m.head.At)
	for at, data := range sectorsOn(t, d) {
		if m.free(at) && data != m.seen[at] {
			t.Errorf("sector %d was not laid down: %q, want %q", at, data, m.seen[at])
		}
	}
	if d.Waits() != 0 {
		t.Errorf("Open: %d writes wait", d.Waits())
	}
	m.check(t, d, w)
	return w, m
}

// fresh is a disk with a log that was just made, and opened.
func fresh(t testing.TB, p place) (*disk.Disk, *Wal, *byWords) {
	t.Helper()
	d := filled(t, p.disk)
	checkErr(t, "Format", Format(d, p.from, p.many), api.OK)
	w, m := opened(t, d, p)
	return d, w, m
}

// free tells whether a transaction may have a sector.
func (m *byWords) free(at int) bool {
	return at >= 0 && at < m.disk && (at < m.from || at >= m.from+m.many)
}

// room is how many sectors the records may still have.
func (m *byWords) room() int { return m.many - 2 - m.used }

// check sees that a wal is what it is by the document's words, by all calls that change nothing, and by what stands in its log.
func (m *byWords) check(t testing.TB, d *disk.Disk, w *Wal) {
	t.Helper()
	if w.Active() != m.active || w.Sure() != m.sure || w.Room() != m.room() {
		t.Errorf("Active %v, Sure %v, Room %d, want %v, %v, %d", w.Active(), w.Sure(), w.Room(), m.active, m.sure, m.room())
	}
	if d.Down() {
		return
	}
	for at := range m.disk {
		want, ok := m.staged[at]
		if !ok {
			want = m.seen[at]
		}
		if !m.free(at) {
			want, _ = d.Read(at)
		}
		if got, e := w.Read(at); got != want || e != api.OK {
			t.Errorf("Read(%d): %q, error %d, want %q", at, got, e, want)
		}
	}
	m.checkLog(t, d)
}

// checkLog sees that just the transactions that were committed stand in the log, from its head on. A head that a checkpoint could not make sure of may be seen already: behind it there are the last of them.
func (m *byWords) checkLog(t testing.TB, d *disk.Disk) {
	t.Helper()
	h := headOn(t, d, m.place)
	ahead := h.Seq - m.head.Seq
	if h != m.head && (h.Gen != m.head.Gen+1 || ahead < 0 || ahead > len(m.records)) {
		t.Errorf("the head is %v, want %v", h, m.head)
		return
	}
	got := recordsOn(t, d, m.place, h)
	if len(got) != len(m.records)-ahead {
		t.Errorf("%d records, want %d", len(got), len(m.records)-ahead)
		return
	}
	for i, x := range got {
		made := map[int]string{}
		for _, s := range x.Sectors {
			made[s.At] = s.Data
		}
		if want := m.records[ahead+i]; !maps.Equal(made, want) || len(x.Sectors) != len(want) {
			t.Errorf("record %d: %v, want %v", x.Seq, made, want)
		}
	}
}

// arm lets a call of the disk fail, the k-th from now on, or lets the disk go down there; none, if k is 0.
func arm(d *disk.Disk, k int, down bool) int {
	if k == 0 {
		return 0
	}
	fails := d.Ops() + k
	if down {
		d.DownAt(fails)
	} else {
		d.Fail(fails)
	}
	return fails
}

// disarm lets no call fail any more.
func disarm(d *disk.Disk, fails int) {
	d.DownAt(0)
	for d.Ops() < fails {
		d.Read(0)
	}
}

// checkCalls sees which error a step that asks the disk answers: that of the disk, if the disk has one at a call of it, which is then the last one; else OK. No call fails behind it.
func checkCalls(t testing.TB, what string, d *disk.Disk, fails int, do func() api.Errno) api.Errno {
	t.Helper()
	ops, down := d.Ops(), d.Down()
	e := do()
	met := fails > ops && fails <= d.Ops()
	defer disarm(d, fails)
	switch {
	case down && (e != api.ErrDown || d.Ops() > ops+1):
		t.Errorf("%s of a disk that is down: error %d, %d calls", what, e, d.Ops()-ops)
	case !down && met && d.Down() && e != api.ErrDown, !down && met && !d.Down() && e != api.ErrIO:
		t.Errorf("%s: error %d at a call that fails", what, e)
	case met && d.Ops() != fails:
		t.Errorf("%s went on behind an error", what)
	case !down && !met && e != api.OK:
		t.Errorf("%s: error %d", what, e)
	}
	return e
}

// The steps, on a wal and by the document's words. fails is the number of the call at which the disk fails, or goes down; 0 of none.
func (m *byWords) begin(t testing.TB, w *Wal) {
	t.Helper()
	want := api.OK
	if m.active {
		want = api.ErrState
	}
	checkErr(t, "Begin", w.Begin(), want)
	m.active = true
}

func (m *byWords) stage(t testing.TB, w *Wal, at int, data string) {
	t.Helper()
	_, has := m.staged[at]
	want := api.OK
	switch {
	case !m.active:
		want = api.ErrState
	case !m.free(at):
		want = api.ErrRange
	case len(data) != 64:
		want = api.ErrSize
	case len(m.staged) == 16 && !has:
		want = api.ErrFull
	}
	checkErr(t, "Stage", w.Stage(at, data), want)
	if want == api.OK {
		m.staged[at] = data
	}
}

// calls is how many calls of the disk a Commit that is OK has: it writes its record's sectors, and one behind it, if there is one, and makes sure once.
func (m *byWords) calls() int { return min(len(m.staged)+2, m.room()) + 1 }

func (m *byWords) commit(t testing.TB, d *disk.Disk, w *Wal, fails int) api.Errno {
	t.Helper()
	size := len(m.staged) + 1
	ops := d.Ops()
	switch {
	case !m.active:
		checkErr(t, "Commit", w.Commit(), api.ErrState)
		return api.ErrState
	case size == 1:
		checkErr(t, "Commit of nothing", w.Commit(), api.OK)
		m.active = false
		return api.OK
	case size > m.room():
		checkErr(t, "Commit", w.Commit(), api.ErrFull)
		return api.ErrFull
	}
	wasDown := d.Down()
	e := checkCalls(t, "Commit", d, fails, w.Commit)
	if !wasDown && d.Down() {
		m.underWay = maps.Clone(m.staged)
	}
	if e == api.OK {
		if calls := m.calls(); d.Ops() != max(ops+calls, fails) {
			t.Errorf("Commit of %d sectors: %d calls, want %d", size-1, d.Ops()-ops, calls)
		}
		for at, data := range m.staged {
			m.seen[at] = data
		}
		m.records = append(m.records, m.staged)
		m.used += size
		m.staged, m.active, m.sure = map[int]string{}, false, false
		m.made = append(m.made, slices.Clone(m.seen))
	}
	return e
}

func (m *byWords) abort(w *Wal) {
	w.Abort()
	m.staged, m.active = map[int]string{}, false
}

func (m *byWords) flush(t testing.TB, d *disk.Disk, w *Wal, fails int) api.Errno {
	t.Helper()
	e := checkCalls(t, "Flush", d, fails, w.Flush)
	if e == api.OK {
		m.nowSure(t, d)
	}
	return e
}

// nowSure is what is so behind a flush.
func (m *byWords) nowSure(t testing.TB, d *disk.Disk) {
	t.Helper()
	if d.Waits() != 0 {
		t.Errorf("%d writes wait", d.Waits())
	}
	m.sure = true
	m.made = m.made[len(m.made)-1:]
}

func (m *byWords) checkpoint(t testing.TB, d *disk.Disk, w *Wal, fails int) api.Errno {
	t.Helper()
	e := checkCalls(t, "Checkpoint", d, fails, w.Checkpoint)
	if e != api.OK {
		return e
	}
	m.nowSure(t, d)
	m.head = loghead.Head{Gen: m.head.Gen + 1, Seq: m.head.Seq + len(m.records), At: (m.head.At + m.used) % (m.many - 2)}
	m.records, m.used = nil, 0
	checkHead(t, d, m.place, m.head.Gen, m.head.Seq, m.head.At)
	for at, data := range sectorsOn(t, d) {
		if m.free(at) && data != m.seen[at] {
			t.Errorf("sector %d was not laid down: %q, want %q", at, data, m.seen[at])
		}
	}
	return e
}

// crash lets the disk begin again with what survives, and opens it, and sees what is there. It goes down meanwhile, at each of the calls that are told, each counted from the beginning of an Open.
func (m *byWords) crash(t testing.TB, d *disk.Disk, choices []int, calls ...int) (*Wal, *byWords) {
	t.Helper()
	possible := m.possible()
	d.Restart(choices)
	for i, call := range calls {
		m.openDown(t, d, call)
		d.Restart(choices[min(i+1, len(choices)):])
	}
	return m.openedAs(t, d, possible)
}

// openDown opens a log, and lets the disk go down at a call.
func (m *byWords) openDown(t testing.TB, d *disk.Disk, call int) {
	t.Helper()
	d.DownAt(d.Ops() + call)
	w, e := Open(d, m.from, m.many)
	if d.Down() && (w != nil || e != api.ErrDown) || !d.Down() && (w == nil || e != api.OK) {
		t.Errorf("Open, down at %d: %v, error %d", call, w, e)
	}
}

// openFails opens a log, where a call of the disk fails; none, if k is 0.
func (m *byWords) openFails(t testing.TB, d *disk.Disk, k int) {
	t.Helper()
	checkCalls(t, "Open", d, arm(d, k, false), func() api.Errno {
		w, e := Open(d, m.from, m.many)
		if (w != nil) != (e == api.OK) {
			t.Errorf("Open: %v, error %d", w, e)
		}
		return e
	})
}

// possible is what may be seen behind a crash: what the first transactions made, with none less than those that are sure, and none more than those that were committed, and the one whose Commit was under way.
func (m *byWords) possible() [][]string {
	if m.underWay == nil {
		return m.made
	}
	last := slices.Clone(m.seen)
	for at, data := range m.underWay {
		last[at] = data
	}
	return append(slices.Clone(m.made), last)
}

// openedAs opens a log, and sees that what is seen is one of what is possible.
func (m *byWords) openedAs(t testing.TB, d *disk.Disk, possible [][]string) (*Wal, *byWords) {
	t.Helper()
	w, now := opened(t, d, m.place)
	same := func(made []string) bool {
		for at := range made {
			if m.free(at) && made[at] != now.seen[at] {
				return false
			}
		}
		return true
	}
	if !slices.ContainsFunc(possible, same) {
		t.Errorf("what is seen is none of what %d transactions made", len(possible))
	}
	return w, now
}
