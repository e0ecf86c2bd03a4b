package wal

import (
	"math/rand"
	"slices"
	"testing"

	"solder/api"
	"solder/disk"
)

// player does steps on a wal, and by the document's words.
type player struct {
	t       testing.TB
	d       *disk.Disk
	w       *Wal
	m       *byWords
	n       int // how many sectors were staged: no two have the same bytes
	ahead   int // how far the number of what is like a record is ahead of the next record's
	failing int // at which call of the disk a Commit fails
}

func newPlayer(t testing.TB, p place) *player {
	d, w, m := fresh(t, p)
	return &player{t: t, d: d, w: w, m: m}
}

// stage stages one of the first sectors that transactions may have, so that several have the same ones; or one further on.
func (p *player) stage(i int) {
	p.n++
	at := -1
	if frees := p.m.frees(); len(frees) > 0 {
		at = frees[i%len(frees)]
	}
	p.m.stage(p.t, p.w, at, text(p.n, i))
}

// stageLike stages, at one of the first sectors that transactions may have, what is like a record that nobody commits.
func (p *player) stageLike(i, ahead int) {
	frees := p.m.frees()
	if len(frees) == 0 {
		return
	}
	next := p.m.head.Seq + len(p.m.records)
	p.m.stage(p.t, p.w, frees[i%len(frees)], likeRecord(p.t, next+ahead, frees[max(0, len(frees)-1-ahead&1):]...))
}

// step does the step of a letter; at the k-th call of the disk from now on the disk fails, or goes down.
func (p *player) step(letter byte, k int, down bool) {
	fails := arm(p.d, k, down)
	switch letter {
	case '0', '1', '2', '4', '5':
		p.stage(int(letter - '0'))
	case 'x':
		p.stageLike(1, p.ahead)
	case 'A':
		for i := range 16 {
			p.stage(i)
		}
	case 'F':
		if k == 0 {
			fails = arm(p.d, p.failing, false)
		}
		p.m.commit(p.t, p.d, p.w, fails)
		p.m.abort(p.w)
	case 'o':
		if k > 0 {
			p.m.openDown(p.t, p.d, k)
		} else {
			p.w, p.m = p.m.openedAs(p.t, p.d, p.m.made[len(p.m.made)-1:])
		}
	case 'b':
		p.m.begin(p.t, p.w)
	case 's':
		p.stage(p.n * 5 % 7)
	case 'S':
		for i := range 11 {
			p.stage(i)
		}
	case 'c':
		p.m.commit(p.t, p.d, p.w, fails)
	case 'a':
		p.m.abort(p.w)
	case 'f':
		p.m.flush(p.t, p.d, p.w, fails)
	case 'k':
		p.m.checkpoint(p.t, p.d, p.w, fails)
	}
	disarm(p.d, fails)
}

// play does the steps of letters.
func (p *player) play(letters string) {
	for i := range len(letters) {
		p.step(letters[i], 0, false)
	}
}

// scripts are steps that are interrupted: transactions that are sure or not, over one another, round the log, with checkpoints ahead and behind.
var scripts = []string{
	"bsc",
	"bsscbsc",
	"bssscfbsscbscbsssc",
	"bscfbscfk",
	"bscbsckbscbsck",
	"bScbsckbsscfbSc",
	"bscbscfkbscbsssckbScfkbsscbssc",
	"bscbsscbscbsckkbsckbscfk",
	"bsabscbsakbscbskcf",
}

// survivors is which of so many writes survive: all, none, all but one, one alone, and others.
func survivors(r *rand.Rand, waits int) [][]int {
	l := [][]int{nil, slices.Repeat([]int{1}, waits+40)}
	for i := range waits {
		one := make([]int, waits)
		one[i] = 1
		butOne := slices.Repeat([]int{1}, waits)
		butOne[i] = 0
		l = append(l, one, butOne)
	}
	for range 3 {
		l = append(l, someSurvive(r))
	}
	return l
}

// someSurvive is choices of all kinds.
func someSurvive(r *rand.Rand) []int {
	l := make([]int, 100)
	for i := range l {
		l[i] = r.Intn(7) - 3
	}
	return l
}

// eachCall lets the machine go down at each call of the disk of each step of scripts, and also behind it, and tells each of these, as often as it is asked again.
func eachCall(t *testing.T, tell func(r *rand.Rand, again func() *player)) {
	t.Helper()
	r := rand.New(rand.NewSource(14))
	for _, script := range scripts {
		eachCallOf(t, script, player{}, func(again func() *player) { tell(r, again) })
	}
}

// eachCallOf lets the machine go down at each call of the disk of each step of a script.
func eachCallOf(t *testing.T, script string, as player, tell func(again func() *player)) {
	t.Helper()
	for i := range len(script) {
		for k := 0; ; k++ {
			again := func() *player {
				p := newPlayer(t, usual)
				p.ahead, p.failing = as.ahead, as.failing
				p.play(script[:i])
				p.step(script[i], k, true)
				return p
			}
			if k > 0 && !again().d.Down() {
				break
			}
			tell(again)
			if t.Failed() {
				t.Fatalf("script %s, step %d, call %d, ahead %d, failing %d", script, i, k, as.ahead, as.failing)
			}
		}
	}
}

// 14.4: wherever the machine goes down, and whatever survives, what is seen is what the first transactions made; and it goes on.
func TestDown(t *testing.T) {
	eachCall(t, func(r *rand.Rand, again func() *player) {
		for _, choices := range survivors(r, again().d.Waits()) {
			p := again()
			p.w, p.m = p.m.crash(t, p.d, choices)
			p.play("bscfbssc")
			p.m.crash(t, p.d, choices)
		}
	})
}

// 14.4: also if it goes down while it is opened again, once and twice, at each call.
func TestDownInOpen(t *testing.T) {
	eachCall(t, func(r *rand.Rand, again func() *player) {
		for call := 1; call < 40; call += 1 + r.Intn(3) {
			p := again()
			p.w, p.m = p.m.crash(t, p.d, someSurvive(r), call)
			p.play("bsc")
			p.m.crash(t, p.d, someSurvive(r), call, 1+r.Intn(20), 1+r.Intn(20))
		}
	})
}

// 14.4: also if the machine did not go down, so that transactions that are not sure are there, and goes down while it is opened again.
func TestOpenUnsure(t *testing.T) {
	r := rand.New(rand.NewSource(44))
	for _, script := range scripts {
		for i := range len(script) + 1 {
			for call := 1; call < 60; call += 1 + r.Intn(2) {
				for range 3 {
					p := newPlayer(t, usual)
					p.play(script[:i])
					p.m.openDown(t, p.d, call)
					p.m.crash(t, p.d, someSurvive(r))
				}
			}
			p := newPlayer(t, usual)
			p.play(script[:i])
			p.m.openedAs(t, p.d, p.m.made[len(p.m.made)-1:]) // all that was committed
			if t.Failed() {
				t.Fatalf("script %s, ahead of step %d", script, i)
			}
		}
	}
}

// 14.4: behind a checkpoint there is room for any transaction.
func TestRoomForAny(t *testing.T) {
	for ahead := range 17 {
		p := newPlayer(t, usual)
		for n := range 20 {
			for _, many := range []int{ahead, 16 - n%2} {
				p.m.begin(t, p.w)
				for i := range many {
					p.stage(i)
				}
				p.m.checkpoint(t, p.d, p.w, 0)
				checkErr(t, "Commit behind a checkpoint", p.m.commit(t, p.d, p.w, 0), api.OK)
			}
			p.m.check(t, p.d, p.w)
		}
		p.m.crash(t, p.d, nil)
	}
}

// played does the steps that bytes say.
func played(t testing.TB, b []byte) {
	places := []place{usual, {24, 0, 24}, {26, 1, 24}, {31, 4, 26}, {60, 30, 30}}
	next := func() int {
		if len(b) == 0 {
			return 0
		}
		x := int(b[0])
		b = b[1:]
		return x
	}
	p := newPlayer(t, places[next()%len(places)])
	for len(b) > 0 {
		p.stepOf(next)
		if !p.d.Down() {
			p.m.check(t, p.d, p.w)
		}
		if t.Failed() {
			return
		}
	}
}

// stageAny stages what numbers say: also what is like one of the records to come, in this log, or in one that is opened behind it.
func (p *player) stageAny(i, what int) {
	if what < 128 {
		p.stage(i)
	} else {
		p.stageLike(i, what%4+what/4%3*p.m.many)
	}
}

// openAny opens a log, where perhaps a call of the disk fails, and then once more: at once, or behind a crash, of which survives what choices say.
func (p *player) openAny(k int, choices []int) {
	if p.d.Down() {
		return
	}
	p.m.openFails(p.t, p.d, k)
	if len(choices) == 0 {
		p.step('o', 0, false)
	} else {
		p.w, p.m = p.m.crash(p.t, p.d, choices)
	}
}

// anyOf is so many numbers.
func anyOf(next func() int, many int) []int {
	l := make([]int, many)
	for i := range l {
		l[i] = next()
	}
	return l
}

// stepOf does the step that numbers say.
func (p *player) stepOf(next func() int) {
	switch x := next() % 24; {
	case x < 6:
		if !p.m.active {
			p.m.begin(p.t, p.w)
			for range 1 + next()%(1+next()%17) {
				p.stageAny(next(), next())
			}
		}
		p.step('c', 0, false)
	case x < 12:
		k := next()
		p.step("bcccffkkka"[k%10], k/10%24, x%2 > 0)
	case x == 12:
		at := next() - 5
		p.m.stage(p.t, p.w, at, text(p.n, at))
	case x == 13:
		p.m.stage(p.t, p.w, next(), "short")
	case x < 19:
		p.step("bskaf"[x-14], 0, false)
	case x == 19:
		p.openAny(next()%40, anyOf(next, max(0, next()%80-40)))
	default:
		choices := anyOf(next, next()%40)
		calls := make([]int, next()%3)
		for i := range calls {
			calls[i] = 1 + next()%30
		}
		p.w, p.m = p.m.crash(p.t, p.d, choices, calls...)
	}
}

// P1, 14.1 to 14.4: whatever is done, in any order, a wal is what the document's words say.
func TestAnything(t *testing.T) {
	for seed := range 1000 {
		r := rand.New(rand.NewSource(int64(seed)))
		b := make([]byte, 200+r.Intn(400))
		for i := range b {
			b[i] = byte(r.Intn(256))
		}
		played(t, b)
		if t.Failed() {
			t.Fatalf("seed %d", seed)
		}
	}
}

func FuzzWals(f *testing.F) {
	f.Add([]byte("a transaction, and another one"))
	for seed := range 5 {
		r := rand.New(rand.NewSource(int64(seed)))
		b := make([]byte, 200)
		for i := range b {
			b[i] = byte(r.Intn(256))
		}
		f.Add(b)
	}
	f.Fuzz(func(t *testing.T, b []byte) {
		if len(b) > 2000 {
			return
		}
		played(t, b)
	})
}
