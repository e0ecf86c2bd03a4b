package wal

import (
	"math/rand"
	"slices"
	"strings"
	"testing"

	"solder/api"
	"solder/cyclic"
	"solder/disk"
	"solder/logrec"
)

// Data may be any bytes: also those of records, and such as have the sum of others.

// sectorsLike are two sectors' data: byte by byte a record of a number, that has 64 times c for the sector 3.
func sectorsLike(t *testing.T, seq int) (string, string) {
	t.Helper()
	s, e := logrec.Put(seq, []api.Sector{{At: 3, Data: full("c")}})
	checkErr(t, "Put of a record", e, api.OK)
	return s[:64], s[64:]
}

// full is a sector of one byte.
func full(c string) string { return strings.Repeat(c, 64) }

// plain is a disk of noughts with a log that was just made, and opened.
func plain(t *testing.T) (*disk.Disk, *Wal) {
	t.Helper()
	d := disk.New(44)
	checkErr(t, "Format", Format(d, 10, 24), api.OK)
	return d, again(t, d)
}

// again opens a log anew.
func again(t *testing.T, d *disk.Disk) *Wal {
	t.Helper()
	w, e := Open(d, 10, 24)
	checkErr(t, "Open", e, api.OK)
	return w
}

// staged begins a transaction that has these bytes from a sector on.
func staged(t *testing.T, w *Wal, at int, l ...string) {
	t.Helper()
	checkErr(t, "Begin", w.Begin(), api.OK)
	for i, data := range l {
		checkErr(t, "Stage", w.Stage(at+i, data), api.OK)
	}
}

// committed is a transaction that has these bytes from a sector on.
func committed(t *testing.T, w *Wal, at int, l ...string) {
	t.Helper()
	staged(t, w, at, l...)
	checkErr(t, "Commit", w.Commit(), api.OK)
}

// sixteenOthers is a transaction of all sectors but the first four.
func sixteenOthers(t *testing.T, w *Wal) {
	t.Helper()
	staged(t, w, 4, slices.Repeat([]string{full("d")}, 6)...)
	for at := 34; at < 44; at++ {
		checkErr(t, "Stage", w.Stage(at, full("d")), api.OK)
	}
	checkErr(t, "Commit", w.Commit(), api.OK)
}

// checkUntouched opens a log anew, again and again: the sector 3 is as it was ahead of all.
func checkUntouched(t *testing.T, d *disk.Disk, seq int) {
	t.Helper()
	for i := range 3 {
		if s, e := again(t, d).Read(3); s != full("\x00") || e != api.OK {
			t.Fatalf("number %d, opened %d times: Read(3): %q, error %d", seq, i+1, s, e)
		}
	}
}

// 14.2, 14.4: data of an elder log that are a record, behind the last one, are none that was committed.
func TestDataOfElderLog(t *testing.T) {
	for seq := range 130 { // 51 is the next one's
		d, w := plain(t)
		x, y := sectorsLike(t, seq)
		committed(t, w, 0, full("a"), x, y)
		w = again(t, d)
		committed(t, w, 0, full("b"))
		checkUntouched(t, d, seq)
	}
}

// 14.2, 14.4: nor are data of a transaction that could not be committed, at whichever call of the disk.
func TestDataOfFailedCommit(t *testing.T) {
	for seq := range 130 { // 26 is the next one's
		for _, behind := range []bool{false, true} {
			for call := 1; failedCommit(t, seq, call, behind); call++ {
			}
		}
	}
}

// failedCommit lets a Commit fail at a call of the disk; another one is OK, and perhaps a checkpoint. It answers whether there was such a call.
func failedCommit(t *testing.T, seq, call int, behind bool) bool {
	t.Helper()
	d, w := plain(t)
	x, y := sectorsLike(t, seq)
	staged(t, w, 0, full("a"), x, y)
	d.Fail(d.Ops() + call)
	e := w.Commit()
	if e == api.OK {
		return false
	}
	checkErr(t, "Commit", e, api.ErrIO)
	w.Abort()
	committed(t, w, 0, full("b"))
	if behind {
		checkErr(t, "Checkpoint", w.Checkpoint(), api.OK)
	}
	checkUntouched(t, d, seq)
	return true
}

// 14.2, 14.4: nor are data that a checkpoint has left, once the log has gone round.
func TestDataGoneRound(t *testing.T) {
	for seq := range 130 { // 28 is the next one's
		for _, behind := range []bool{false, true} {
			d, w := plain(t)
			x, y := sectorsLike(t, seq)
			committed(t, w, 0, full("a"), x, y)
			checkErr(t, "Checkpoint", w.Checkpoint(), api.OK)
			sixteenOthers(t, w)
			committed(t, w, 4, full("e"), full("f"))
			if behind {
				checkErr(t, "Checkpoint", w.Checkpoint(), api.OK)
			}
			checkUntouched(t, d, seq)
		}
	}
}

// 14.2, 14.3, 14.4: nor are data in the last sectors that are left, where no record has room, once a checkpoint has made room. Behind the last one of them stands what the log's first record begins with.
func TestDataInLastSectors(t *testing.T) {
	for left := 1; left <= 3; left++ {
		for seq := range 130 { // 28 is the next one's
			d, _ := lastSectors(t, left, full("x"))
			behind, e := d.Read(12 + 5 - left)
			checkErr(t, "Read of the disk", e, api.OK)
			s, e := logrec.Put(seq, []api.Sector{{At: 3, Data: behind}})
			checkErr(t, "Put of a record", e, api.OK)
			d, w := lastSectors(t, left, s[:64])
			checkErr(t, "Checkpoint", w.Checkpoint(), api.OK)
			checkUntouched(t, d, seq)
		}
	}
}

// lastSectors is a log that has gone round, with so few sectors left; a transaction had a sector's bytes in the first of these.
func lastSectors(t *testing.T, left int, data string) (*disk.Disk, *Wal) {
	t.Helper()
	d, w := plain(t)
	l := slices.Repeat([]string{full("a")}, 3)
	l[3-left] = data
	committed(t, w, 0, l...)
	checkErr(t, "Checkpoint", w.Checkpoint(), api.OK)
	sixteenOthers(t, w)
	committed(t, w, 4, slices.Repeat([]string{full("e")}, 4-left)...)
	if w.Room() != left {
		t.Fatalf("Room %d, want %d", w.Room(), left)
	}
	return d, w
}

// 14.1, 14.4: nor are data where the log begins when it is opened, while the record that has them is told, and behind that.
func TestDataWhereLogBegins(t *testing.T) {
	for seq := range 130 { // 52 is the next one's
		for _, behind := range []bool{false, true} {
			d, w := plain(t)
			x, y := sectorsLike(t, seq)
			committed(t, w, 0, full("a"), full("a"), full("a"))
			checkErr(t, "Checkpoint", w.Checkpoint(), api.OK)
			sixteenOthers(t, w)
			committed(t, w, 0, x, y)
			if behind {
				checkErr(t, "Checkpoint", w.Checkpoint(), api.OK)
			}
			checkUntouched(t, d, seq)
			w = again(t, d)
			for i, want := range []string{x, y, full("a")} {
				if s, e := w.Read(i); s != want || e != api.OK {
					t.Errorf("Read(%d): %q, error %d, want %q", i, s, e, want)
				}
			}
		}
	}
}

// 14.1, 14.4: all that the records say is there also if a call of the disk fails in an Open that makes its place ready, whichever it is, and it is opened again, at once or behind a crash.
func TestDataWhereLogBeginsFails(t *testing.T) {
	r := rand.New(rand.NewSource(461))
	for k := 1; k <= 60; k++ {
		for _, choices := range [][]int{nil, {0}, slices.Repeat([]int{1}, 60), someSurvive(r), someSurvive(r)} {
			p := newPlayer(t, usual)
			p.ahead = 1 + usual.many
			p.play("b012ckbAcbx2cf")
			p.openAny(k, choices)
		}
	}
}

// likeScripts are steps with data that are like a record to come: of an elder log, of a transaction that could not be committed, that the log has gone round to, and where the log begins when it is opened; and others.
var likeScripts = []string{
	"b0x2cob0cfob4co",
	"b0x2cfob0cbx4cob0c",
	"b0x2Fb0cfob4c",
	"bx2Fb0ckbx2Fob0c",
	"b0x2ckbAcb45cfo",
	"b0x2ckbAcb45ckobxc",
	"b012ckbAcbx2cfob4co",
	"b0ckbAcbx24cfkob0co",
	"b012ckbAcbx245cfob0co",
	"b0x2ckbAcb0245cobx2co",
	"bxcbxcbxcokbxcbxco",
}

// aheads is how far numbers are ahead of the next record's that are those of a record to come: in this log, in the next one, and in the one behind that.
var aheads = []int{0, 1, 2, 3, 24, 25, 26, 27, 49, 50}

// 14.4: data that are like a record are none, wherever the machine goes down, in a Commit, in a Checkpoint and in an Open, and whatever survives, also when it is opened again and goes down again.
func TestDataDown(t *testing.T) {
	r := rand.New(rand.NewSource(46))
	for _, script := range likeScripts {
		for _, ahead := range aheads {
			as := player{ahead: ahead, failing: 1 + r.Intn(6)}
			eachCallOf(t, script, as, func(again func() *player) {
				if r.Intn(5) > 0 {
					return
				}
				l := survivors(r, again().d.Waits())
				for _, choices := range [][]int{l[r.Intn(2)], l[r.Intn(len(l))]} {
					p := again()
					p.w, p.m = p.m.crash(t, p.d, choices)
					p.m.openedAs(t, p.d, p.m.made)
				}
				p := again()
				p.w, p.m = p.m.crash(t, p.d, someSurvive(r), 1+r.Intn(30), 1+r.Intn(30))
				p.play("b4c")
				p.m.crash(t, p.d, someSurvive(r))
			})
		}
	}
}

// downInOpens lets the machine go down at a call of an Open behind steps, and, of what waits then, survive what choices of the waiting writes say; and once more, if more calls are told; then it is opened, once and once more.
func downInOpens(t *testing.T, script string, ahead int, choices []int, calls ...int) {
	t.Helper()
	p := newPlayer(t, usual)
	p.ahead = ahead
	p.play(script)
	made := p.m.made
	for i, call := range calls {
		p.m.openDown(t, p.d, call)
		p.d.Restart(choices[min(i, len(choices)):])
	}
	p.w, p.m = p.m.openedAs(t, p.d, made)
	p.m.openedAs(t, p.d, made)
	if t.Failed() {
		t.Fatalf("script %s, ahead %d, down at %v, %v survive", script, ahead, calls, choices)
	}
}

// beginScripts are steps behind which there are data where the log begins when it is opened, in its last record, in an older one, or in none; all is sure.
var beginScripts = []string{"b012ckbAcbx2cf", "b012ckbAcbx245cf", "b0ckbAcbx24cf", "b01ckbAcf", "bx2Fb4ckbx2Fb4cf"}

// 14.4: where the log begins when it is opened there are data that are like the next record; the machine goes down at each call of the Open, and all kinds of writes survive.
func TestDataDownInOpen(t *testing.T) {
	r := rand.New(rand.NewSource(4))
	for _, script := range beginScripts {
		for ahead := usual.many; ahead < usual.many+4; ahead++ {
			for call := 1; call < 60; call++ {
				for mask := range 4 {
					downInOpens(t, script, ahead, []int{mask, mask >> 1}, call)
				}
				downInOpens(t, script, ahead, slices.Repeat([]int{1}, 40), call)
				downInOpens(t, script, ahead, someSurvive(r), call, 1+r.Intn(40))
				downInOpens(t, script, ahead, someSurvive(r), call, 1+r.Intn(40), 1+r.Intn(40))
			}
		}
	}
}

// 14.4: wherever the machine goes down in a Format, and whatever survives, what was committed ahead of it is all there, or there is no log, or the new one; also where the place of a head ahead of the one that counts has data that are like its record.
func TestDataDownInFormat(t *testing.T) {
	r := rand.New(rand.NewSource(141))
	var olds, nones, news int
	for k := 1; k <= 29; k++ {
		for range 60 {
			p := newPlayer(t, usual)
			p.ahead = -2
			p.play("b0ckbAckb45cb0x2cf")
			want := sectorsOn(t, p.d)
			p.d.DownAt(p.d.Ops() + k)
			Format(p.d, 10, 24)
			l := survivors(r, p.d.Waits())
			p.d.Restart(l[r.Intn(len(l))])
			w, e := Open(p.d, 10, 24)
			if e == api.ErrCorrupt {
				nones++
				continue
			}
			checkErr(t, "Open", e, api.OK)
			if news++; headOn(t, p.d, usual).Gen > 2 {
				news, olds, want = news-1, olds+1, p.m.seen
			}
			for _, at := range usual.frees() {
				if s, e := w.Read(at); s != want[at] || e != api.OK {
					t.Errorf("down at %d: Read(%d): %q, error %d, want %q", k, at, s, e, want[at])
				}
			}
		}
	}
	if olds == 0 || nones == 0 || news == 0 {
		t.Errorf("old ones %d, none %d, new ones %d", olds, nones, news)
	}
}

// 14.4: the record's second sector is lost, and in its place there are older bytes that have its sum: none of the transaction is seen, or all; wherever the machine goes down in its Commit, or behind that.
func TestSumOfOlder(t *testing.T) {
	a := full("a")
	b := summed("b"+a[:59], cyclic.Of(a))
	if a == b || cyclic.Tail("any"+a+"any") != cyclic.Tail("any"+b+"any") {
		t.Fatalf("%q has another sum", b)
	}
	for mask := range 1 << 4 {
		for call := 1; downOverOlder(t, a, b, call, mask); call++ {
		}
	}
}

// downOverOlder lets the machine go down at a call of the Commit of a, over the log of an elder one of b, or behind it; of what waits survives what a mask says. It answers whether there was such a call.
func downOverOlder(t *testing.T, a, b string, call, mask int) bool {
	t.Helper()
	d, w := plain(t)
	committed(t, w, 0, b)
	w = again(t, d)
	staged(t, w, 5, a)
	d.DownAt(d.Ops() + call)
	e := w.Commit()
	if e != api.OK && e != api.ErrDown {
		t.Errorf("Commit, down at %d: error %d", call, e)
	}
	d.Restart([]int{mask & 1, mask >> 1 & 1, mask >> 2 & 1, mask >> 3 & 1})
	w = again(t, d)
	if s, e := w.Read(5); s != full("\x00") && s != a || e != api.OK {
		t.Errorf("down at %d, %04b survives: Read(5): %q, error %d", call, mask, s, e)
	}
	if s, e := w.Read(0); s != b || e != api.OK {
		t.Errorf("down at %d, %04b survives: Read(0): %q, error %d", call, mask, s, e)
	}
	return e == api.ErrDown
}

// 14.4: each one of a transaction's sectors is lost, and each two; older ones in their places, one alone or two together, have their sum.
func TestSumsOfOlder(t *testing.T) {
	for _, many := range []int{2, 3, 5} {
		for i := range many {
			for k := range i + 1 {
				for call := range many + 4 {
					loseSome(t, many, k, i, call)
				}
			}
		}
	}
	r := rand.New(rand.NewSource(47))
	for range 12 {
		i := r.Intn(16)
		k := r.Intn(i + 1)
		for _, call := range []int{0, 1 + r.Intn(18), 18, 19} {
			loseSome(t, 16, k, i, call)
		}
	}
}

// loseSome lets the machine go down at a call of a Commit (0: behind it), and none survives, or all but each one, or all but each two. Of the sectors the k-th and the i-th have together, or the one alone, the sum of the older bytes in their places.
func loseSome(t *testing.T, many, k, i, call int) {
	t.Helper()
	waits := beside(t, many, k, i, call).d.Waits()
	for one := range waits + 1 { // of as many as wait none is lost
		for other := range one + 1 {
			p := beside(t, many, k, i, call)
			choices := slices.Repeat([]int{1}, waits+1)
			choices[one], choices[other] = 0, 0
			p.m.crash(t, p.d, choices)
			if t.Failed() {
				t.Fatalf("%d sectors, of which %d and %d have the older ones' sum; down at %d; of %d %d and %d lost", many, k, i, call, waits, other, one)
			}
		}
	}
}

// beside is a transaction over the log of an elder one, of as many sectors, and the machine down at a call of its Commit.
func beside(t *testing.T, many, k, i, call int) *player {
	t.Helper()
	p := newPlayer(t, place{60, 10, 24})
	var older, newer []string
	for at := range many {
		older = append(older, summed(text(1, at)[:60], at))
		newer = append(newer, summed(text(2, at)[:60], 100+at))
	}
	newer[i] = newer[i][:60]
	were := older[k] + strings.Join(newer[k:i], "")[64*min(1, i-k):] + older[i]
	if k == i {
		were = older[i]
	}
	newer[i] = summed(strings.Join(newer[k:i+1], ""), cyclic.Of(were))[64*(i-k):]
	p.commitAll(0, 0, older)
	p.w, p.m = p.m.openedAs(t, p.d, p.m.made[1:])
	p.commitAll(34, call, newer)
	return p
}

// commitAll is a transaction that has these bytes from a sector on; the machine goes down at a call of its Commit.
func (p *player) commitAll(at, call int, l []string) {
	p.m.begin(p.t, p.w)
	for i, data := range l {
		p.m.stage(p.t, p.w, at+i, data)
	}
	p.m.commit(p.t, p.d, p.w, arm(p.d, call, true))
}
