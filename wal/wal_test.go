package wal

import (
	"errors"
	"slices"
	"strings"
	"testing"

	"solder/api"
	"solder/disk"
)

// checkPlace sees that Format and Open answer ErrRange, and that the disk is not asked.
func checkPlace(t *testing.T, d *disk.Disk, from, many int) {
	t.Helper()
	ops := d.Ops()
	if e := Format(d, from, many); e != api.ErrRange {
		t.Errorf("Format(%d, %d): error %d", from, many, e)
	}
	if w, e := Open(d, from, many); w != nil || e != api.ErrRange {
		t.Errorf("Open(%d, %d): %v, error %d", from, many, w, e)
	}
	if d.Ops() != ops {
		t.Errorf("the disk was asked")
	}
}

// 14.1: a log has 24 to 200 sectors, and all of them are on the disk.
func TestPlace(t *testing.T) {
	d := filled(t, 250)
	sizes := append([]int{0, 1, 2, 3, 22, 23, 201, 202, 224, 256}, far...)
	for _, many := range sizes {
		for _, from := range append([]int{0, 1, 26, 49, 50, 250}, far...) {
			checkPlace(t, d, from, many)
		}
	}
	for _, many := range []int{24, 25, 100, 199, 200} {
		for _, from := range append([]int{251 - many, 249, 250, 251}, far...) {
			checkPlace(t, d, from, many)
		}
	}
	for _, sectors := range []int{0, 1, 23} {
		checkPlace(t, disk.New(sectors), 0, 24)
	}
	checkPlace(t, nil, 0, 24)
	checkPlace(t, nil, 0, 0)
	checkPlace(t, &disk.Disk{}, 0, 24)
	want := sectorsOn(t, filled(t, 250))
	checkSure(t, d, want)
}

// 14.1: all sectors of the log are 0 but the one of the head, all is sure, and no other sector changes.
func TestFormat(t *testing.T) {
	for _, p := range logs {
		d := filled(t, p.disk)
		want := sectorsOn(t, d)
		for i := range p.many {
			want[p.from+i] = noughts(1)
		}
		want[p.from+1] = headOf(t, 1, 1, 0)
		for range 2 {
			checkErr(t, "Format", Format(d, p.from, p.many), api.OK)
			checkSure(t, d, want)
		}
	}
}

// 14.1: a log that had records has none behind a Format, and its disk has what it had beside it.
func TestFormatAgain(t *testing.T) {
	d, w, m := fresh(t, usual)
	m.begin(t, w)
	m.stage(t, w, 0, text(1, 0))
	m.commit(t, d, w, 0)
	checkErr(t, "Format", Format(d, 10, 24), api.OK)
	checkHead(t, d, usual, 1, 1, 0)
	_, m = opened(t, d, usual)
	if m.seen[0] != filler(0) {
		t.Errorf("sector 0 is %q", m.seen[0])
	}
}

// 14.1: each error of the disk ends a Format, and is its answer.
func TestFormatFails(t *testing.T) {
	for _, down := range []bool{false, true} {
		for k := 1; ; k++ {
			d := filled(t, 40)
			fails := arm(d, k, down)
			e := checkCalls(t, "Format", d, fails, func() api.Errno { return Format(d, 10, 24) })
			if e == api.OK {
				if k < 28 {
					t.Errorf("Format has %d calls", k-1)
				}
				break
			}
			d.Restart([]int{1, 0, 1})
			checkErr(t, "Format", Format(d, 10, 24), api.OK)
			opened(t, d, usual)
		}
	}
}

// 14.1: wherever the machine goes down in a Format, the head of no records is there only if the records are gone.
func TestFormatGoesDown(t *testing.T) {
	for k := 1; k <= 28; k++ {
		for lost := -1; lost < 28; lost++ {
			d := filled(t, 40)
			checkErr(t, "Format", Format(d, 10, 24), api.OK)
			for seq, at := 1, 0; seq < 4; seq++ {
				at += layRecord(t, d, usual, at, seq, api.Sector{At: seq, Data: text(seq, seq)})
			}
			checkErr(t, "Write", d.Write(11, noughts(1)), api.OK)
			layHead(t, d, usual, 8, 1, 0)
			checkErr(t, "Flush", d.Flush(), api.OK)
			d.DownAt(d.Ops() + k)
			Format(d, 10, 24)
			choices := slices.Repeat([]int{1}, 30)
			if lost >= 0 {
				choices[lost] = 0
			}
			d.Restart(choices)
			s := sectorsOn(t, d)
			if s[11] == headOf(t, 1, 1, 0) && (s[10] != noughts(1) || strings.Join(s[12:34], "") != noughts(22)) {
				t.Errorf("down at %d, %d lost: a head ahead of old records, or beside an old head", k, lost)
			}
		}
	}
}

// checkCorrupt sees that what is on the disk is no log, and that nothing changes.
func checkCorrupt(t *testing.T, d *disk.Disk, p place) {
	t.Helper()
	want, waits := sectorsOn(t, d), d.Waits()
	if w, e := Open(d, p.from, p.many); w != nil || e != api.ErrCorrupt {
		t.Errorf("Open: %v, error %d, want %d", w, e, api.ErrCorrupt)
	}
	if d.Waits() != waits {
		t.Errorf("%d writes wait, want %d", d.Waits(), waits)
	}
	checkDisk(t, d, want)
}

// 14.1: an opened log has a head of one Gen more, at 0, with a number beyond those that it had; and nothing is seen that was not on the disk.
func TestOpen(t *testing.T) {
	for _, p := range logs {
		d, w, m := fresh(t, p)
		if w.Room() != p.many-2 || w.Active() || !w.Sure() {
			t.Errorf("Room %d, Active %v, Sure %v", w.Room(), w.Active(), w.Sure())
		}
		checkHead(t, d, p, 2, 1+p.many, 0)
		m.check(t, d, w)
		_, m = opened(t, d, p)
		checkHead(t, d, p, 3, 1+2*p.many, 0)
		for at := range p.disk {
			if m.free(at) && m.seen[at] != filler(at) {
				t.Errorf("sector %d is %q", at, m.seen[at])
			}
		}
	}
}

// 14.1: without a head there is no log.
func TestOpenNoHead(t *testing.T) {
	for _, p := range logs {
		d := filled(t, p.disk)
		checkCorrupt(t, d, p)
		checkErr(t, "Format", Format(d, p.from, p.many), api.OK)
		checkErr(t, "Write", d.Write(p.from+1, noughts(1)), api.OK)
		checkCorrupt(t, d, p)
		wrong := []byte(headOf(t, 1, 1, 0))
		wrong[6] ^= 1
		checkErr(t, "Write", d.Write(p.from+1, string(wrong)), api.OK)
		checkCorrupt(t, d, p)
		checkErr(t, "Write", d.Write(p.from+2, headOf(t, 2, 1, 0)), api.OK) // a sector of the records
		checkCorrupt(t, d, p)
		checkErr(t, "Write", d.Write(p.from, headOf(t, 2, 1, 0)), api.OK)
		opened(t, d, p)
	}
}

// 14.1: of two heads the newer one counts, wherever it is; and one alone counts, too.
func TestOpenNewer(t *testing.T) {
	for _, gens := range [][2]int{{4, 5}, {4, 3}, {4, 9}, {10, 9}, {1 << 40, 3}, {0, 1}} {
		for _, alone := range []int{0, 1, 2} {
			d := filled(t, 40)
			for i, gen := range gens {
				if alone != i {
					layHead(t, d, usual, gen, 100*(i+1), 5*i)
				}
				layRecord(t, d, usual, 5*i, 100*(i+1), api.Sector{At: i, Data: text(i, i)})
			}
			want := slices.Index(gens[:], max(gens[0], gens[1]))
			if alone < 2 {
				want = 1 - alone
			}
			_, m := opened(t, d, usual)
			if (m.seen[0] == text(0, 0)) != (want == 0) || (m.seen[1] == text(1, 1)) != (want == 1) {
				t.Errorf("heads %v but %d: %q and %q", gens, alone, m.seen[0], m.seen[1])
			}
			checkHead(t, d, usual, gens[want]+1, 100*(want+1)+1+24, 0)
		}
	}
}

// 14.1: of two heads with the same Gen the first one counts (10.2).
func TestOpenAlike(t *testing.T) {
	for _, gen := range []int{5, 6} {
		d := filled(t, 40)
		for i := range 2 {
			checkErr(t, "Write", d.Write(10+i, headOf(t, gen, 200-100*i, 5*i)), api.OK)
			layRecord(t, d, usual, 5*i, 200-100*i, api.Sector{At: i, Data: text(i, i)})
		}
		w, e := Open(d, 10, 24)
		checkErr(t, "Open", e, api.OK)
		for i, want := range []string{text(0, 0), filler(1)} {
			if s, e := w.Read(i); s != want || e != api.OK {
				t.Errorf("Gen %d: Read(%d): %q, error %d", gen, i, s, e)
			}
		}
		checkHead(t, d, usual, gen+1, 201+24, 0)
	}
}

// 14.1: a head's At has to be a sector of the records.
func TestOpenAt(t *testing.T) {
	for _, p := range logs {
		for _, at := range []int{0, 1, 21, p.many - 4, p.many - 3, p.many - 2, p.many - 1, p.many, 199, 200} {
			d := filled(t, p.disk)
			layHead(t, d, p, 7, 100, min(at, 200))
			if at > p.many-3 {
				checkCorrupt(t, d, p)
				continue
			}
			layRecord(t, d, p, at, 100, api.Sector{At: p.from, Data: text(1, 1)})
			checkCorrupt(t, d, p) // so it is found
			checkErr(t, "Write", d.Write(p.from+2+at, filler(0)), api.OK)
			opened(t, d, p)
		}
	}
}

// 14.1: a head has to have a Gen, and a Seq, behind which there are those of the next one.
func TestOpenUsedUp(t *testing.T) {
	for _, p := range []place{usual, {1000, 0, 200}} {
		for _, c := range []struct {
			gen, seq int
			usedUp   bool
		}{
			{top, 1, true}, {top, top, true}, {top - 1, 1, false}, {top - 2, 1, false},
			{1, top, true}, {1, top - 1, true}, {1, top - p.many + 1, true}, {1, top - p.many, false}, {1, top - p.many - 1, false},
			{top - 1, top - p.many, false},
		} {
			d := filled(t, p.disk)
			layHead(t, d, p, c.gen, c.seq, 3)
			if c.usedUp {
				checkCorrupt(t, d, p)
				continue
			}
			opened(t, d, p)
			checkHead(t, d, p, c.gen+1, c.seq+p.many, 0)
		}
	}
}

// 14.1: numbers that the records use count, too.
func TestOpenUsedUpByRecords(t *testing.T) {
	for records := range 4 {
		for left := range 5 {
			d := filled(t, 40)
			seq, at := top-24-left, 0
			layHead(t, d, usual, 7, seq, at)
			for i := range records {
				at += layRecord(t, d, usual, at, seq+i, api.Sector{At: i, Data: text(i, i)})
			}
			if records > left {
				checkCorrupt(t, d, usual)
				continue
			}
			opened(t, d, usual)
			checkHead(t, d, usual, 8, seq+records+24, 0)
		}
	}
}

// frees is all sectors that a transaction may have.
func (p place) frees() []int {
	var l []int
	for at := range p.disk {
		if at < p.from || at >= p.from+p.many {
			l = append(l, at)
		}
	}
	return l
}

// threeRecords lays three records of two sectors each, but the i-th one has one more, at any place, as the k-th of its sectors.
func threeRecords(t *testing.T, d *disk.Disk, p place, i, k, at int) {
	t.Helper()
	frees := slices.DeleteFunc(p.frees(), func(other int) bool { return other == at })
	place := p.many - 6 // round
	layHead(t, d, p, 7, 100, place)
	for n := range 3 {
		var l []api.Sector
		for _, other := range frees[2*n : 2*n+2] {
			l = append(l, api.Sector{At: other, Data: text(n, other)})
		}
		if n == i {
			l = slices.Insert(l, k, api.Sector{At: at, Data: text(n, at)})
		}
		place = (place + layRecord(t, d, p, place, 100+n, l...)) % (p.many - 2)
	}
	checkErr(t, "Flush", d.Flush(), api.OK)
}

// 14.1: a record that has a sector that is none of the disk, or one of the log's, is none that a wal has put: nothing is laid down.
func TestOpenStray(t *testing.T) {
	for _, p := range []place{usual, {60, 0, 31}, {60, 29, 31}, {999, 0, 200}, {1000, 0, 200}, {1000, 800, 200}, {1000, 400, 199}} {
		edges := []int{0, 1, p.from - 1, p.from, p.from + 1, p.from + 2, p.from + p.many - 1, p.from + p.many, p.disk - 1, p.disk, p.disk + 1, 998, 999}
		for _, at := range edges {
			if at < 0 || at > 999 { // no record has it
				continue
			}
			for i := range 3 {
				for k := range 3 {
					d := filled(t, p.disk)
					threeRecords(t, d, p, i, k, at)
					if slices.Contains(p.frees(), at) {
						_, m := opened(t, d, p)
						if m.seen[at] != text(i, at) {
							t.Errorf("sector %d is %q", at, m.seen[at])
						}
					} else {
						checkCorrupt(t, d, p)
					}
				}
			}
		}
	}
}

// 14.1: where a log has all sectors of the disk no record may be.
func TestOpenAllStray(t *testing.T) {
	p := place{24, 0, 24}
	for _, at := range []int{0, 1, 2, 12, 22, 23, 24, 25, 999} {
		d := filled(t, 24)
		layHead(t, d, p, 7, 100, 20)
		layRecord(t, d, p, 20, 100, api.Sector{At: at, Data: text(1, at)})
		checkCorrupt(t, d, p)
	}
}

// 14.1: what all records say is laid down, in order: of a sector that several have the last one's bytes; and all is sure.
func TestOpenLaysDown(t *testing.T) {
	d := filled(t, 40)
	want := sectorsOn(t, d)
	layHead(t, d, usual, 6, 1000, 15)
	place := 15
	for n, l := range [][]int{{0, 1, 2, 39}, {1, 9}, {2, 34, 9}, {1}, {39, 2}} {
		var sectors []api.Sector
		for _, at := range l {
			sectors = append(sectors, api.Sector{At: at, Data: text(n, at)})
			want[at] = text(n, at)
		}
		place = (place + layRecord(t, d, usual, place, 1000+n, sectors...)) % 22
	}
	layRecord(t, d, usual, place, 1006, api.Sector{At: 3, Data: text(9, 3)}) // behind one that is not there
	if place != 10 {
		t.Fatalf("the records end at %d", place)
	}
	log := sectorsOn(t, d)[12:34]
	w, m := opened(t, d, usual)
	copy(want[12:], log)
	want[10] = headOf(t, 6, 1000, 15)
	want[11] = headOf(t, 7, 1005+24, 0)
	checkSure(t, d, want)
	d.Restart(nil)
	checkSure(t, d, want)
	m.check(t, d, w)
}

// 14.1: a log that is full has all its records.
func TestOpenFull(t *testing.T) {
	for start := range 22 {
		d := filled(t, 40)
		layHead(t, d, usual, 5, 77, start)
		for n := range 11 {
			layRecord(t, d, usual, (start+2*n)%22, 77+n, api.Sector{At: n % 10, Data: text(n, n)})
		}
		_, m := opened(t, d, usual)
		if m.seen[0] != text(10, 10) || m.seen[9] != text(9, 9) {
			t.Errorf("from %d on: %q and %q", start, m.seen[0], m.seen[9])
		}
		checkHead(t, d, usual, 6, 77+11+24, 0)
	}
}

// 14.1: each error of the disk ends an Open, and is its answer; there is no wal then, and what was there is there if it is opened again.
func TestOpenFails(t *testing.T) {
	for _, down := range []bool{false, true} {
		for k := 1; ; k++ {
			d := filled(t, 40)
			threeRecords(t, d, usual, 1, 1, 9)
			fails := arm(d, k, down)
			var w *Wal
			e := checkCalls(t, "Open", d, fails, func() (e api.Errno) {
				w, e = Open(d, 10, 24)
				return e
			})
			if (w != nil) != (e == api.OK) {
				t.Errorf("down %v at %d: %v, error %d", down, k, w, e)
			}
			if e == api.OK {
				if k < 2+10+7+1+1+1 {
					t.Errorf("Open has %d calls", k-1)
				}
				break
			}
			if down {
				d.Restart([]int{1, 1, 0, 1, 0})
			}
			_, m := opened(t, d, usual)
			if m.seen[9] != text(1, 9) || m.seen[0] != text(0, 0) || m.seen[5] != text(2, 5) {
				t.Errorf("down %v at %d: what the records say is not there", down, k)
			}
		}
	}
}

// 14.1: that there is no log is told ahead of an error of the disk, where it is known without that call.
func TestOpenCorruptAhead(t *testing.T) {
	for _, head := range [][3]int{{top, 1, 0}, {1, top, 0}, {1, 1, 22}, {1, 1, 200}} {
		for k := 1; k < 6; k++ {
			d := filled(t, 40)
			layHead(t, d, usual, head[0], head[1], head[2])
			layRecord(t, d, usual, 0, 1, api.Sector{At: 1, Data: text(1, 1)})
			want := api.ErrCorrupt
			if k <= 2 { // a head can't be read
				want = api.ErrDown
			}
			d.DownAt(d.Ops() + k)
			if w, e := Open(d, 10, 24); w != nil || e != want {
				t.Errorf("head %v, down at %d: %v, error %d, want %d", head, k, w, e, want)
			}
		}
	}
}

// The example of the chapter: both are as before, or both are new, also if all survives, or nothing does.
func TestExample(t *testing.T) {
	for _, survives := range [][]int{nil, {1}, {0, 1, 1}, {1, 0, 1}, {1, 1, 0}, {1, 1}, {1, 1, 1}, {0}, {0, 1}, {0, 0, 1}} {
		d, w, m := fresh(t, usual)
		m.begin(t, w)
		m.stage(t, w, 5, text(1, 5))
		m.stage(t, w, 7, text(1, 7))
		m.commit(t, d, w, 0)
		waits := d.Waits()
		_, m = m.crash(t, d, survives)
		all := len(survives) >= waits && !slices.Contains(survives[:waits], 0)
		none := !slices.Contains(survives[:min(waits, len(survives))], 1)
		before := m.seen[5] == filler(5) && m.seen[7] == filler(7)
		after := m.seen[5] == text(1, 5) && m.seen[7] == text(1, 7)
		if !before && !after || all && !after || none && !before {
			t.Errorf("%v of %d survive: %q and %q", survives, waits, m.seen[5], m.seen[7])
		}
	}
}

// 14.2: there is one transaction at a time, and Begin begins none over another.
func TestBegin(t *testing.T) {
	d, w, m := fresh(t, usual)
	for _, end := range []func(){m.abortOf(w), m.commitOf(t, d, w)} {
		for _, sectors := range []int{0, 1, 16} {
			m.begin(t, w)
			m.begin(t, w) // ErrState
			for at := range sectors {
				m.stage(t, w, m.frees()[at], text(sectors, at))
				m.begin(t, w)
			}
			m.check(t, d, w)
			end()
			m.check(t, d, w)
		}
		m.checkpoint(t, d, w, 0)
	}
}

// abortOf and commitOf are ends of a transaction.
func (m *byWords) abortOf(w *Wal) func() { return func() { m.abort(w) } }

func (m *byWords) commitOf(t *testing.T, d *disk.Disk, w *Wal) func() {
	return func() { checkErr(t, "Commit", m.commit(t, d, w, 0), api.OK) }
}

// 14.2: any sector of the disk is staged, but those of the log; other numbers are refused, whatever the bytes.
func TestStagePlaces(t *testing.T) {
	for _, p := range logs {
		d, w, m := fresh(t, p)
		m.begin(t, w)
		ops := d.Ops()
		for _, at := range far {
			m.stage(t, w, at, text(1, 0))
			m.stage(t, w, at, "x")
		}
		for at := range p.disk + 3 {
			m.stage(t, w, at, text(1, at))
			for _, size := range partial {
				m.stage(t, w, at, strings.Repeat("x", size))
			}
			if len(m.staged) == 16 {
				m.abort(w)
				m.begin(t, w)
			}
		}
		if d.Ops() != ops {
			t.Errorf("the disk was asked")
		}
		m.check(t, d, w)
	}
}

// 14.2: without a transaction nothing is staged, whatever it is.
func TestStageState(t *testing.T) {
	d, w, m := fresh(t, usual)
	try := func() {
		for _, at := range append([]int{0, 9, 10, 33, 34, 39, 40}, far...) {
			m.stage(t, w, at, text(1, 0))
			m.stage(t, w, at, "x")
		}
		m.check(t, d, w)
	}
	try()
	for _, end := range []func(){m.abortOf(w), m.commitOf(t, d, w)} {
		m.begin(t, w)
		m.stage(t, w, 5, text(2, 5))
		end()
		try()
	}
}

// 14.2: a transaction has 16 sectors at most; of those that it has the bytes may be others again and again.
func TestStageFull(t *testing.T) {
	for _, first := range []int{0, 24} { // sectors that transactions ahead have, or have not
		d, w, m := fresh(t, place{60, 0, 24}.shifted(first))
		frees := m.frees()
		for _, l := range [][]int{frees[:16], frees[16:32]} {
			m.begin(t, w)
			for n := range 3 {
				for _, at := range l {
					m.stage(t, w, at, text(n, at))
				}
				for _, at := range append(slices.Clone(frees), far...) {
					if !slices.Contains(l, at) {
						m.stage(t, w, at, text(n, 0))
						m.stage(t, w, at, "x") // ErrRange and ErrSize ahead of ErrFull
					}
				}
				m.check(t, d, w)
			}
			checkErr(t, "Commit", m.commit(t, d, w, 0), api.OK)
			m.check(t, d, w)
			m.checkpoint(t, d, w, 0)
		}
		m.begin(t, w)
		for i, at := range frees {
			if i%2 == 0 {
				m.stage(t, w, at, text(7, at))
			}
		}
		m.check(t, d, w)
	}
}

// shifted is a log further on.
func (p place) shifted(by int) place {
	p.from += by
	return p
}

// 14.2: a transaction of no sectors is over, and nothing else is.
func TestCommitNone(t *testing.T) {
	d, w, m := fresh(t, usual)
	for _, sure := range []bool{true, false} {
		if !sure {
			m.begin(t, w)
			m.stage(t, w, 1, text(1, 1))
			m.commit(t, d, w, 0)
		}
		want, ops := sectorsOn(t, d), d.Ops()
		m.begin(t, w)
		checkErr(t, "Commit", m.commit(t, d, w, 0), api.OK)
		if d.Ops() != ops {
			t.Errorf("the disk was asked")
		}
		checkDisk(t, d, want)
		if w.Sure() != sure {
			t.Errorf("Sure %v, want %v", w.Sure(), sure)
		}
		m.check(t, d, w)
		checkErr(t, "Commit", m.commit(t, d, w, 0), api.ErrState)
	}
	d.DownAt(d.Ops() + 1)
	d.Read(0)
	m.begin(t, w)
	checkErr(t, "Commit of nothing", w.Commit(), api.OK)
}

// 14.2: what is committed is seen, stands as a record behind the others, and takes as many sectors as it has and one more.
func TestCommit(t *testing.T) {
	for _, p := range []place{usual, {60, 29, 31}, {1000, 400, 200}} {
		d, w, m := fresh(t, p)
		frees := m.frees()
		for n := range 40 {
			many := 1 + n*7%16
			if many >= m.room() {
				m.checkpoint(t, d, w, 0)
			}
			m.begin(t, w)
			for k := range many {
				at := frees[(5*n+3*k)%len(frees)]
				m.stage(t, w, at, text(n, at))
			}
			m.check(t, d, w)
			checkErr(t, "Commit", m.commit(t, d, w, 0), api.OK)
			m.check(t, d, w)
		}
	}
}

// 14.2: where the log has no room for a record nothing is put, and the transaction is as it was, till there is room.
func TestCommitFull(t *testing.T) {
	for _, many := range []int{24, 25, 26, 39, 40} {
		for size := 1; size <= 16; size++ {
			for _, ahead := range []int{1, 2, 3, 8, 16} {
				p := place{many + 20, 3, many}
				d, w, m := fresh(t, p)
				frees := m.frees()
				for n := 0; ; n++ {
					m.begin(t, w)
					for k := range ahead {
						m.stage(t, w, frees[k], text(n, k))
					}
					if m.room() <= ahead {
						break
					}
					checkErr(t, "Commit", m.commit(t, d, w, 0), api.OK)
				}
				m.abort(w)
				m.begin(t, w)
				for k := range size {
					m.stage(t, w, frees[19-k], text(99, k))
				}
				fits, ops := size+1 <= m.room(), d.Ops()
				if e := m.commit(t, d, w, 0); fits != (e == api.OK) || !fits && d.Ops() != ops {
					t.Errorf("%d sectors, room %d: error %d", size, m.room(), e)
				}
				m.check(t, d, w)
				m.checkpoint(t, d, w, 0)
				m.check(t, d, w)
				if !fits {
					checkErr(t, "Commit behind a checkpoint", m.commit(t, d, w, 0), api.OK)
				}
				m.check(t, d, w)
			}
		}
	}
}

// 14.2: an error of the disk is told, the transaction is as it was, and may be committed again, changed or not.
func TestCommitFails(t *testing.T) {
	for size := 1; size <= 16; size += 3 {
		for k := 1; k <= size+3; k++ {
			d, w, m := fresh(t, usual)
			for n := range 2 {
				m.begin(t, w)
				for i := range size {
					m.stage(t, w, m.frees()[i], text(n, i))
				}
				if m.room() <= size {
					m.checkpoint(t, d, w, 0)
				}
				for range 3 {
					checkErr(t, "Commit", m.commit(t, d, w, arm(d, min(k, m.calls()), false)), api.ErrIO)
					m.check(t, d, w)
				}
				m.stage(t, w, 0, text(n, 50))
				checkErr(t, "Commit", m.commit(t, d, w, 0), api.OK)
				m.check(t, d, w)
			}
		}
	}
}

// 14.2: what could not be committed, and is aborted, has not been, whatever there is in its place; also if the machine goes down.
func TestCommitFailsAbort(t *testing.T) {
	for _, then := range []int{0, 1, 2} {
		for k := 1; k <= 7; k++ {
			d, w, m := fresh(t, usual)
			m.begin(t, w)
			for i := range 4 {
				m.stage(t, w, i, text(1, i))
			}
			checkErr(t, "Commit", m.commit(t, d, w, arm(d, k, false)), api.ErrIO)
			m.abort(w)
			m.check(t, d, w)
			for n := range then {
				m.begin(t, w)
				m.stage(t, w, 1+n, text(2+n, 1))
				checkErr(t, "Commit", m.commit(t, d, w, 0), api.OK)
			}
			m.flush(t, d, w, 0)
			_, m = m.crash(t, d, nil)
			if m.seen[3] != filler(3) {
				t.Errorf("sector 3 is %q", m.seen[3])
			}
		}
	}
}

// 14.2: what is aborted has not been: what is seen is what was ahead.
func TestAbort(t *testing.T) {
	d, w, m := fresh(t, usual)
	m.abort(w) // none
	m.check(t, d, w)
	for n := range 3 {
		m.begin(t, w)
		m.stage(t, w, 5, text(n, 5))
		checkErr(t, "Commit", m.commit(t, d, w, 0), api.OK)
		for _, many := range []int{0, 1, 16} {
			ops := d.Ops()
			m.begin(t, w)
			for k := range many {
				m.stage(t, w, m.frees()[k], text(100+n, k))
			}
			m.abort(w)
			if d.Ops() != ops {
				t.Errorf("the disk was asked")
			}
			m.check(t, d, w)
		}
		m.abort(w)
		m.check(t, d, w)
	}
}

// 14.2: staged bytes are seen over those of the last transaction, and these over those of the disk, also where these are other ones meanwhile.
func TestRead(t *testing.T) {
	d, w, m := fresh(t, usual)
	m.begin(t, w)
	m.stage(t, w, 5, text(1, 5))
	m.commit(t, d, w, 0)
	for at := range 40 {
		if m.free(at) {
			checkErr(t, "Write", d.Write(at, text(7, at)), api.OK)
			m.seen[at] = text(7, at)
		}
	}
	m.seen[5] = text(1, 5)
	m.check(t, d, w)
	m.begin(t, w)
	m.stage(t, w, 5, text(2, 5))
	m.stage(t, w, 6, text(2, 6))
	m.check(t, d, w)
	m.abort(w)
	m.check(t, d, w)
}

// 14.2: the disk's error is that of Read; a sector that it has not is one.
func TestReadFails(t *testing.T) {
	d, w, m := fresh(t, usual)
	for _, at := range append([]int{40, 41}, far...) {
		if s, e := w.Read(at); s != "" || e != api.ErrRange {
			t.Errorf("Read(%d): %q, error %d", at, s, e)
		}
	}
	for _, down := range []bool{false, true} {
		want := api.ErrIO
		if down {
			want = api.ErrDown
		}
		for at := range 40 {
			arm(d, 1, down)
			if s, e := w.Read(at); s != "" || e != want {
				t.Errorf("Read(%d): %q, error %d, want %d", at, s, e, want)
			}
			if down {
				d.Restart(nil)
			}
		}
	}
	m.check(t, d, w)
}

// 14.3: behind a Flush all is sure, till the next transaction; an error of the disk changes nothing.
func TestFlush(t *testing.T) {
	d, w, m := fresh(t, usual)
	for n := range 5 {
		m.begin(t, w)
		m.check(t, d, w)
		m.stage(t, w, n, text(n, n))
		if n%2 > 0 {
			checkErr(t, "Flush", m.flush(t, d, w, 0), api.OK)
		}
		m.check(t, d, w)
		checkErr(t, "Commit", m.commit(t, d, w, arm(d, 1, false)), api.ErrIO)
		m.check(t, d, w)
		checkErr(t, "Commit", m.commit(t, d, w, 0), api.OK)
		m.check(t, d, w)
		checkErr(t, "Flush", m.flush(t, d, w, arm(d, 1, false)), api.ErrIO)
		m.check(t, d, w)
		checkErr(t, "Flush", m.flush(t, d, w, 0), api.OK)
		m.check(t, d, w)
		checkErr(t, "Flush", m.flush(t, d, w, arm(d, 1, false)), api.ErrIO)
		m.check(t, d, w) // still sure
	}
	_, now := m.crash(t, d, nil)
	for n := range 5 {
		if now.seen[n] != text(n, n) {
			t.Errorf("sector %d is %q", n, now.seen[n])
		}
	}
	d.DownAt(d.Ops() + 1)
	checkErr(t, "Flush", w.Flush(), api.ErrDown)
}

// 14.3: a checkpoint lays all down, for sure, and the log is empty; a transaction that is under way goes on.
func TestCheckpoint(t *testing.T) {
	for _, p := range []place{usual, {60, 0, 31}, {1000, 800, 200}} {
		d, w, m := fresh(t, p)
		frees := m.frees()
		for n := range 30 {
			for k := range n % 4 { // also none
				m.begin(t, w)
				for i := range 1 + k {
					at := frees[(n+3*i)%len(frees)]
					m.stage(t, w, at, text(4*n+k, at))
				}
				checkErr(t, "Commit", m.commit(t, d, w, 0), api.OK)
			}
			if n%5 > 2 {
				m.begin(t, w)
				m.stage(t, w, frees[n%3], text(1000+n, n))
			}
			m.check(t, d, w)
			checkErr(t, "Checkpoint", m.checkpoint(t, d, w, 0), api.OK)
			if w.Room() != p.many-2 || !w.Sure() {
				t.Errorf("Room %d, Sure %v", w.Room(), w.Sure())
			}
			m.check(t, d, w)
			if m.active && n%2 == 0 {
				checkErr(t, "Commit", m.commit(t, d, w, 0), api.OK)
			}
			m.abort(w)
			m.check(t, d, w)
		}
	}
}

// 14.3: behind a checkpoint what transactions said is the disk's: it is read there, and not laid down again.
func TestCheckpointGone(t *testing.T) {
	d, w, m := fresh(t, usual)
	ops := d.Ops()
	checkErr(t, "Checkpoint", w.Checkpoint(), api.OK)
	of := d.Ops() - ops
	m.head.Gen++
	for n := range 3 {
		m.begin(t, w)
		for at := range 5 {
			m.stage(t, w, n+at, text(n, at))
		}
		checkErr(t, "Commit", m.commit(t, d, w, 0), api.OK)
	}
	checkErr(t, "Checkpoint", m.checkpoint(t, d, w, 0), api.OK)
	for at := range 8 {
		arm(d, 1, false)
		if s, e := w.Read(at); s != "" || e != api.ErrIO {
			t.Errorf("Read(%d): %q, error %d", at, s, e)
		}
	}
	ops = d.Ops()
	checkErr(t, "Checkpoint", w.Checkpoint(), api.OK)
	if d.Ops()-ops != of {
		t.Errorf("a checkpoint of nothing has %d calls, want %d", d.Ops()-ops, of)
	}
}

// 14.3: each error of the disk ends a checkpoint, and nothing changes in what is seen, in Room and in Sure; what follows goes on, also if the machine goes down, and a later checkpoint comes to the same.
func TestCheckpointFails(t *testing.T) {
	for _, then := range []int{0, 1, 2, 3} {
		for _, survives := range [][]int{nil, {0, 1}, {1}, {1, 1, 1, 1, 1, 1}} {
			for k := 1; ; k++ {
				d, w, m := fresh(t, usual)
				for n := range 3 {
					m.begin(t, w)
					m.stage(t, w, n, text(n, n))
					m.stage(t, w, n+1, text(n, n+1))
					m.commit(t, d, w, 0)
				}
				if m.checkpoint(t, d, w, arm(d, k, false)) == api.OK {
					if k < 1+4+1+1+1+1 {
						t.Errorf("a checkpoint has %d calls", k-1)
					}
					break
				}
				m.check(t, d, w)
				if then > 0 {
					m.begin(t, w)
					m.stage(t, w, 2, text(9, 2))
					m.commit(t, d, w, 0)
					m.check(t, d, w)
				}
				if then == 2 {
					m.flush(t, d, w, 0)
					m.check(t, d, w)
				}
				if then == 3 {
					m.checkpoint(t, d, w, 0)
					m.check(t, d, w)
				}
				m.crash(t, d, survives)
			}
		}
	}
}

// 14.3: a checkpoint that fails again and again takes no room, and a log that goes on meanwhile is whole.
func TestCheckpointFailsAgain(t *testing.T) {
	for k := 1; k <= 7; k++ {
		d, w, m := fresh(t, usual)
		for n := range 4 {
			m.begin(t, w)
			for i := range 3 {
				m.stage(t, w, n+i, text(n, n+i))
			}
			checkErr(t, "Commit", m.commit(t, d, w, 0), api.OK)
			for range 3 {
				m.checkpoint(t, d, w, arm(d, k, false))
				m.check(t, d, w)
			}
		}
		m.flush(t, d, w, 0)
		_, m = m.crash(t, d, nil)
		if m.seen[5] != text(3, 5) || m.seen[0] != text(0, 0) {
			t.Errorf("failed at %d: %q and %q", k, m.seen[0], m.seen[5])
		}
	}
}

// Where the numbers of records, or of heads, are used up, nothing goes on, and nothing changes: the chapter says no error for it, and ErrLimit is that of numbers that are used up.
func TestUsedUp(t *testing.T) {
	d := filled(t, 40)
	layHead(t, d, usual, 7, top-24, 0)
	w, m := opened(t, d, usual) // the next record has the number top
	m.begin(t, w)
	m.stage(t, w, 1, text(1, 1))
	checkErr(t, "Commit", m.commit(t, d, w, 0), api.OK)
	m.begin(t, w)
	m.stage(t, w, 2, text(2, 2))
	ops := d.Ops()
	checkErr(t, "Commit", w.Commit(), api.ErrLimit)
	checkErr(t, "Checkpoint", w.Checkpoint(), api.ErrLimit)
	if d.Ops() != ops {
		t.Errorf("the disk was asked")
	}
	m.check(t, d, w)

	d = filled(t, 40)
	layHead(t, d, usual, top-2, 5, 0)
	w, m = opened(t, d, usual)
	m.begin(t, w)
	m.stage(t, w, 1, text(1, 1))
	checkErr(t, "Commit", m.commit(t, d, w, 0), api.OK)
	checkErr(t, "Checkpoint", m.checkpoint(t, d, w, 0), api.OK)
	checkErr(t, "Checkpoint", w.Checkpoint(), api.ErrLimit)
	m.check(t, d, w)
}

// 14.2, 14.3: of nil ErrState, no, nothing, 0.
func TestNil(t *testing.T) {
	var w *Wal
	for _, at := range append([]int{0, 5, 10}, far...) {
		checkErr(t, "Stage", w.Stage(at, text(1, 1)), api.ErrState)
		checkErr(t, "Stage", w.Stage(at, "x"), api.ErrState)
		if s, e := w.Read(at); s != "" || e != api.ErrState {
			t.Errorf("Read: %q, error %d", s, e)
		}
	}
	w.Abort()
	checkErr(t, "Begin", w.Begin(), api.ErrState)
	checkErr(t, "Commit", w.Commit(), api.ErrState)
	checkErr(t, "Flush", w.Flush(), api.ErrState)
	checkErr(t, "Checkpoint", w.Checkpoint(), api.ErrState)
	if w.Active() || w.Sure() || w.Room() != 0 {
		t.Errorf("Active %v, Sure %v, Room %d", w.Active(), w.Sure(), w.Room())
	}
}

// P1: a wal that Open did not make has no disk.
func TestNotMade(t *testing.T) {
	w := &Wal{}
	for range 2 {
		checkErr(t, "Stage", w.Stage(0, text(1, 1)), api.ErrState)
		checkErr(t, "Begin", w.Begin(), api.OK)
		checkErr(t, "Stage", w.Stage(0, text(1, 1)), api.ErrRange)
		if s, e := w.Read(0); s != "" || e != api.ErrState {
			t.Errorf("Read: %q, error %d", s, e)
		}
		checkErr(t, "Flush", w.Flush(), api.ErrState)
		checkErr(t, "Checkpoint", w.Checkpoint(), api.ErrState)
		checkErr(t, "Commit", w.Commit(), api.OK)
		w.Abort()
		if w.Active() || w.Room() != 0 {
			t.Errorf("Active %v, Room %d", w.Active(), w.Room())
		}
	}
}

// Of steps the first that fails is the last that is done; what it met is found in what they answer, with what it was.
func TestInOrder(t *testing.T) {
	done := ""
	of := func(name string, e api.Errno) step {
		return step{name, func() api.Errno {
			done += name
			return e
		}}
	}
	if err := inOrder(of("a", api.OK), of("b", api.OK)); err != nil || cause(err) != api.OK || done != "ab" {
		t.Errorf("%v, done %s", err, done)
	}
	done = ""
	err := inOrder(of("a", api.OK), of("b", api.ErrIO), of("c", api.ErrDown))
	if cause(err) != api.ErrIO || !errors.Is(err, api.ErrIO) || errors.Is(err, api.ErrDown) || done != "ab" || err.Error() != "b: error 30" {
		t.Errorf("%v, done %s", err, done)
	}
	if err := inOrder(); err != nil {
		t.Errorf("no steps: %v", err)
	}
}
