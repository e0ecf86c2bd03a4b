package disk

import (
	"math"
	"slices"
	"strings"
	"testing"

	"solder/api"
)

// Numbers of sectors, those that are held within bounds among them, and what they are held at.
var sizes = []struct{ asked, held int }{
	{0, 0}, {1, 1}, {2, 2}, {3, 3}, {64, 64}, {200, 200},
	{999, 999}, {1000, 1000}, {1001, 1000}, {1 << 32, 1000}, {1<<32 + 1, 1000}, {math.MaxInt, 1000},
	{-1, 0}, {-2, 0}, {-1000, 0}, {-1 << 32, 0}, {math.MinInt, 0}, {math.MinInt + 1, 0},
}

// Places and numbers that are none of any disk, near and far.
var never = []int{-1, -2, -64, -1000, -1 << 32, math.MinInt, math.MinInt + 1, 1000, 1001, 1 << 32, 1<<32 + 1, math.MaxInt}

// Texts that are no sector's bytes.
var wrongSizes = []string{"", "a", strings.Repeat("a", 63), strings.Repeat("a", 65), strings.Repeat("a", 128), strings.Repeat("a", 64<<8)}

// sector is 64 bytes: a text, and as many bytes 0 behind it as there must be.
func sector(text string) string { return text + strings.Repeat("\x00", 64-len(text)) }

// The three calls, each as what it answers.
var calls = map[string]func(d *Disk) api.Errno{
	"Read":  func(d *Disk) api.Errno { _, e := d.Read(0); return e },
	"Write": func(d *Disk) api.Errno { return d.Write(0, sector("called")) },
	"Flush": func(d *Disk) api.Errno { return d.Flush() },
}

// made is a disk of which the sectors have these texts, for sure.
func made(t *testing.T, texts ...string) *Disk {
	t.Helper()
	d := New(len(texts))
	lay(t, d, texts...)
	if e := d.Flush(); e != api.OK {
		t.Fatalf("Flush: error %d", e)
	}
	return d
}

// lay writes texts to the sectors from 0 on.
func lay(t *testing.T, d *Disk, texts ...string) {
	t.Helper()
	for at, text := range texts {
		put(t, d, at, text)
	}
}

// put writes a text to a sector.
func put(t *testing.T, d *Disk, at int, text string) {
	t.Helper()
	if e := d.Write(at, sector(text)); e != api.OK {
		t.Fatalf("Write to %d: error %d", at, e)
	}
}

// checkErr sees that an error is the one that is asked for.
func checkErr(t *testing.T, what string, got, want api.Errno) {
	t.Helper()
	if got != want {
		t.Errorf("%s: error %d, want %d", what, got, want)
	}
}

// checkSeen sees that the sectors have just these texts, and so many writes wait.
func checkSeen(t *testing.T, d *Disk, waits int, texts ...string) {
	t.Helper()
	if d.Sectors() != len(texts) || d.Waits() != waits {
		t.Errorf("Sectors %d, Waits %d, want %d, %d", d.Sectors(), d.Waits(), len(texts), waits)
	}
	for at, text := range texts {
		if got, e := d.Read(at); got != sector(text) || e != api.OK {
			t.Errorf("Read(%d): %q, error %d, want %q", at, got, e, sector(text))
		}
	}
}

// 8.1: a disk has as many sectors as were asked for, held from 0 to 1000, and all bytes are 0.
func TestNew(t *testing.T) {
	for _, c := range sizes {
		d := New(c.asked)
		if d.Ops() != 0 || d.Down() {
			t.Errorf("New(%d): Ops %d, Down %v", c.asked, d.Ops(), d.Down())
		}
		checkSeen(t, d, 0, make([]string, c.held)...)
		if _, e := d.Read(c.held); e != api.ErrRange {
			t.Errorf("Read(%d) of %d: error %d", c.held, c.asked, e)
		}
	}
}

// 8.1: what is written is seen at once, in that sector alone; the last one written counts, whatever its bytes are.
func TestWrite(t *testing.T) {
	for _, c := range sizes {
		if c.held == 0 {
			continue
		}
		d := New(c.asked)
		for _, at := range []int{0, c.held / 2, c.held - 1} {
			want := make([]string, c.held)
			for _, text := range []string{"a", "b", strings.Repeat("\xff", 64), "a", ""} {
				want[at] = text
				put(t, d, at, text)
				checkSeen(t, d, d.Waits(), want...)
			}
			if e := d.Flush(); e != api.OK {
				t.Errorf("Flush: error %d", e)
			}
		}
	}
}

// 8.1: a sector that there is not is not read, and not written; that is told ahead of a wrong size.
func TestRange(t *testing.T) {
	for _, c := range sizes {
		d := New(c.asked)
		for _, at := range append([]int{c.held, c.held + 1}, never...) {
			if got, e := d.Read(at); got != "" || e != api.ErrRange {
				t.Errorf("Read(%d) of %d: %q, error %d", at, c.asked, got, e)
			}
			checkErr(t, "Write", d.Write(at, sector("a")), api.ErrRange)
			for _, data := range wrongSizes {
				checkErr(t, "Write of a wrong size", d.Write(at, data), api.ErrRange)
			}
		}
		checkSeen(t, d, 0, make([]string, c.held)...)
	}
}

// 8.1: bytes that are not as many as a sector has are refused, and nothing changes.
func TestSize(t *testing.T) {
	d := made(t, "a", "b")
	put(t, d, 1, "c")
	for _, data := range wrongSizes {
		for at := range 2 {
			checkErr(t, "Write", d.Write(at, data), api.ErrSize)
		}
	}
	checkSeen(t, d, 1, "a", "c")
}

// 8.1: behind a Flush nothing waits, and all is seen as before; also if nothing waited.
func TestFlush(t *testing.T) {
	d := New(3)
	checkErr(t, "Flush of nothing", d.Flush(), api.OK)
	checkSeen(t, d, 0, "", "", "")
	lay(t, d, "a", "b", "c")
	put(t, d, 1, "d")
	checkSeen(t, d, 4, "a", "d", "c")
	for range 2 {
		checkErr(t, "Flush", d.Flush(), api.OK)
		checkSeen(t, d, 0, "a", "d", "c")
	}
	put(t, d, 2, "e")
	checkSeen(t, d, 1, "a", "d", "e")
}

// 8.1, 8.2: of nil 0 and ErrState; it is down, and nothing is told of it.
func TestNil(t *testing.T) {
	var d *Disk
	for _, n := range append([]int{0, 1, 2}, never...) {
		d.Fail(n)
		d.DownAt(n)
		d.Restart([]int{n})
		if got, e := d.Read(n); got != "" || e != api.ErrState {
			t.Errorf("Read(%d): %q, error %d", n, got, e)
		}
		checkErr(t, "Write", d.Write(n, sector("a")), api.ErrState)
		checkErr(t, "Write of a wrong size", d.Write(n, "a"), api.ErrState)
		checkErr(t, "Flush", d.Flush(), api.ErrState)
		if d.Sectors() != 0 || d.Ops() != 0 || d.Waits() != 0 || !d.Down() {
			t.Errorf("Sectors %d, Ops %d, Waits %d, Down %v", d.Sectors(), d.Ops(), d.Waits(), d.Down())
		}
	}
	d.Restart(nil)
}

// P1: a disk that New did not make is one of no sectors.
func TestNotMade(t *testing.T) {
	var d Disk
	checkErr(t, "Write", d.Write(0, sector("a")), api.ErrRange)
	checkErr(t, "Flush", d.Flush(), api.OK)
	d.Fail(3)
	checkErr(t, "Write", d.Write(0, sector("a")), api.ErrIO)
	d.DownAt(4)
	checkErr(t, "Write", d.Write(0, sector("a")), api.ErrDown)
	d.Restart([]int{1, 1})
	checkSeen(t, &d, 0)
	if d.Ops() != 4 || d.Down() {
		t.Errorf("Ops %d, Down %v", d.Ops(), d.Down())
	}
}

// Words, 8.2: each Read, Write and Flush is counted, whatever comes of it, and nothing else is.
func TestOps(t *testing.T) {
	d := New(2)
	n := 0
	count := func(what string, e, want api.Errno) {
		t.Helper()
		n++
		checkErr(t, what, e, want)
		if d.Ops() != n {
			t.Errorf("%s: Ops %d, want %d", what, d.Ops(), n)
		}
	}
	read := func(at int) api.Errno { _, e := d.Read(at); return e }
	count("Read", read(0), api.OK)
	count("Read", read(2), api.ErrRange)
	count("Write", d.Write(0, sector("a")), api.OK)
	count("Write", d.Write(-1, sector("a")), api.ErrRange)
	count("Write", d.Write(0, "a"), api.ErrSize)
	count("Flush", d.Flush(), api.OK)
	for i := 1; i <= 3; i++ {
		d.Fail(n + i)
	}
	count("Read", read(0), api.ErrIO)
	count("Write", d.Write(0, sector("b")), api.ErrIO)
	count("Flush", d.Flush(), api.ErrIO)
	d.DownAt(n + 1)
	for range 2 {
		count("Read", read(0), api.ErrDown)
		count("Write", d.Write(0, sector("c")), api.ErrDown)
		count("Flush", d.Flush(), api.ErrDown)
	}
	d.Restart(nil)
	d.Sectors()
	d.Waits()
	d.Down()
	count("Read", read(0), api.OK)
}

// 8.2: each write that waits is counted, also several of one sector and such as change no byte; none that was refused.
func TestWaits(t *testing.T) {
	d := New(3)
	for i := range 2500 {
		if d.Waits() != i {
			t.Fatalf("Waits %d, want %d", d.Waits(), i)
		}
		put(t, d, i%2, "same")
		d.Write(3, sector("a"))
		d.Write(0, "a")
		d.Read(0)
	}
	checkSeen(t, d, 2500, "same", "same", "")
	d.Flush()
	checkSeen(t, d, 0, "same", "same", "")
}

// 8.1, 8.2: a call that fails does nothing: not a Write, and not a Flush; the next one does again.
func TestFail(t *testing.T) {
	for name, call := range calls {
		d := made(t, "a", "b")
		put(t, d, 1, "c")
		d.Fail(d.Ops() + 1)
		checkErr(t, name, call(d), api.ErrIO)
		if d.Down() {
			t.Errorf("%s: it is down", name)
		}
		checkSeen(t, d, 1, "a", "c")
		checkErr(t, name, call(d), api.OK)
		d.Restart(nil)
		want := []string{"a", "b"}
		if name == "Flush" {
			want[1] = "c"
		}
		checkSeen(t, d, 0, want...)
	}
}

// 8.1: a Read that fails has no bytes; that a call fails is told ahead of what is wrong with it.
func TestFailFirst(t *testing.T) {
	d := made(t, "a")
	for i := 1; i <= 5; i++ {
		d.Fail(d.Ops() + i)
	}
	for _, at := range []int{0, 1, -1} {
		if got, e := d.Read(at); got != "" || e != api.ErrIO {
			t.Errorf("Read(%d): %q, error %d", at, got, e)
		}
	}
	checkErr(t, "Write", d.Write(1, sector("b")), api.ErrIO)
	checkErr(t, "Write", d.Write(0, "b"), api.ErrIO)
	checkSeen(t, d, 0, "a")
}

// failing is which of the next calls fail, of so many.
func failing(d *Disk, many int) []int {
	var l []int
	for range many {
		if e := d.Flush(); e == api.ErrIO {
			l = append(l, d.Ops())
		}
	}
	return l
}

// 8.2: of several numbers each call fails, once, in whatever order they are told, and however often; others do not.
func TestFailSeveral(t *testing.T) {
	d := New(1)
	for _, call := range []int{9, 2, 3, 9, 30, 2, 9, math.MaxInt} {
		d.Fail(call)
	}
	if got := failing(d, 40); !slices.Equal(got, []int{2, 3, 9, 30}) {
		t.Errorf("calls that fail: %v", got)
	}
}

// 8.2: a call whose number has come fails no more; the next one may.
func TestFailPast(t *testing.T) {
	d := New(1)
	failing(d, 5)
	for _, call := range []int{5, 4, 1, 0, -1, -6, math.MinInt} {
		d.Fail(call)
	}
	if got := failing(d, 10); len(got) != 0 {
		t.Errorf("calls that fail: %v", got)
	}
	d.Fail(16)
	if got := failing(d, 10); !slices.Equal(got, []int{16}) {
		t.Errorf("calls that fail: %v", got)
	}
}

// 8.2: 100 numbers are kept, and no more: those told first. One told twice is one number.
func TestFailMost(t *testing.T) {
	d := New(1)
	var want []int
	for i := 1; i <= 99; i++ {
		d.Fail(2 * i)
		d.Fail(2 * i)
		want = append(want, 2*i)
	}
	d.Fail(500)
	d.Fail(501)
	d.Fail(1)
	if got := failing(d, 600); !slices.Equal(got, append(want, 500)) {
		t.Errorf("calls that fail: %v", got)
	}
}

// 8.2: numbers that have come, or that were refused, take no room from others.
func TestFailMakesRoom(t *testing.T) {
	d := New(1)
	failing(d, 3)
	for i := range 200 {
		d.Fail(3 - i)
	}
	for i := 1; i <= 100; i++ {
		d.Fail(3 + i)
	}
	d.Fail(104)
	if got := failing(d, 1); !slices.Equal(got, []int{4}) {
		t.Errorf("calls that fail: %v", got)
	}
	d.Fail(200)
	d.Fail(201)
	if got := failing(d, 300); len(got) != 100 || got[98] != 103 || got[99] != 200 {
		t.Errorf("calls that fail: %v", got)
	}
}

// 8.1: the call at which the disk goes down does nothing, but that a Write waits: it survives, or it is lost.
func TestDownAt(t *testing.T) {
	for name, call := range calls {
		for _, choice := range []int{0, 1} {
			d := made(t, "a", "b")
			put(t, d, 1, "c")
			d.DownAt(d.Ops() + 1)
			if d.Down() {
				t.Errorf("%s: it is down ahead of the call", name)
			}
			checkErr(t, name, call(d), api.ErrDown)
			waits := 1
			want := []string{"a", "b"}
			if name == "Write" {
				waits = 2
			}
			if name == "Write" && choice == 1 {
				want[0] = "called"
			}
			if !d.Down() || d.Waits() != waits {
				t.Errorf("%s: Down %v, Waits %d, want %d", name, d.Down(), d.Waits(), waits)
			}
			d.Restart([]int{0, choice, 1})
			checkSeen(t, d, 0, want...)
		}
	}
}

// 8.1: it goes down also at a call that may not be, and that is told first; a Write that may not be does not wait.
func TestDownAtRefused(t *testing.T) {
	for _, c := range []struct {
		at   int
		data string
	}{{0, "x"}, {0, ""}, {0, strings.Repeat("x", 65)}, {2, sector("x")}, {-1, sector("x")}, {math.MinInt, "x"}} {
		d := made(t, "a", "b")
		d.DownAt(d.Ops() + 1)
		checkErr(t, "Write", d.Write(c.at, c.data), api.ErrDown)
		if !d.Down() || d.Waits() != 0 {
			t.Errorf("Write(%d, %q): Down %v, Waits %d", c.at, c.data, d.Down(), d.Waits())
		}
		d.Restart([]int{1, 1})
		checkSeen(t, d, 0, "a", "b")
	}
	d := made(t, "a")
	d.DownAt(d.Ops() + 1)
	for _, at := range []int{5, 0} {
		if got, e := d.Read(at); got != "" || e != api.ErrDown || !d.Down() {
			t.Errorf("Read(%d): %q, error %d", at, got, e)
		}
	}
}

// 8.1: a call that is to fail, and at which the disk goes down, is where it goes down, and a Write waits.
func TestDownAtFail(t *testing.T) {
	d := made(t, "a")
	d.Fail(d.Ops() + 1)
	d.DownAt(d.Ops() + 1)
	checkErr(t, "Write", d.Write(0, sector("b")), api.ErrDown)
	if !d.Down() || d.Waits() != 1 {
		t.Errorf("Down %v, Waits %d", d.Down(), d.Waits())
	}
	d.Restart([]int{1})
	checkSeen(t, d, 0, "b")
}

// 8.1: a disk that is down does nothing, whatever it is told, and however often; what waits, waits.
func TestDown(t *testing.T) {
	d := made(t, "a", "b")
	put(t, d, 0, "c")
	d.DownAt(d.Ops() + 1)
	d.Read(0)
	d.Fail(d.Ops() + 2)
	d.DownAt(d.Ops() + 4)
	for range 4 {
		for name, call := range calls {
			checkErr(t, name, call(d), api.ErrDown)
		}
		checkErr(t, "Write", d.Write(2, "x"), api.ErrDown)
		if got, e := d.Read(-1); got != "" || e != api.ErrDown {
			t.Errorf("Read: %q, error %d", got, e)
		}
	}
	if !d.Down() || d.Waits() != 1 || d.Sectors() != 2 {
		t.Errorf("Down %v, Waits %d, Sectors %d", d.Down(), d.Waits(), d.Sectors())
	}
	d.Restart([]int{1, 1, 1})
	checkSeen(t, d, 0, "c", "b")
}

// downCall is the number of the call at which the disk goes down, of the next so many; 0, if at none.
func downCall(d *Disk, many int) int {
	for range many {
		if d.Flush(); d.Down() {
			return d.Ops()
		}
	}
	return 0
}

// 8.2: the number that was told last counts, a nearer one and a farther one, and none if it has come.
func TestDownAtLast(t *testing.T) {
	for _, c := range []struct {
		told []int
		want int
	}{
		{nil, 0}, {[]int{4}, 4}, {[]int{9}, 9}, {[]int{9, 4}, 4}, {[]int{4, 9}, 9}, {[]int{4, 4}, 4}, {[]int{4, 9, 7}, 7},
		{[]int{3}, 0}, {[]int{2}, 0}, {[]int{1}, 0}, {[]int{0}, 0}, {[]int{-1}, 0}, {[]int{-4}, 0}, {[]int{math.MinInt}, 0}, {[]int{math.MaxInt}, 0},
		{[]int{9, 3}, 0}, {[]int{9, 0}, 0}, {[]int{9, -1}, 0}, {[]int{3, 9}, 9}, {[]int{9, 0, 5}, 5}, {[]int{9, math.MaxInt}, 0},
	} {
		d := New(1)
		failing(d, 3)
		for _, call := range c.told {
			d.DownAt(call)
		}
		if got := downCall(d, 20); got != c.want {
			t.Errorf("DownAt of %v: it goes down at %d, want %d", c.told, got, c.want)
		}
	}
}

// seenByWords is 8.3: what was sure, and over it what survives.
func seenByWords(sure []string, waits []api.Sector, choices []int) []string {
	seen := slices.Clone(sure)
	for i, w := range waits {
		if i < len(choices) && choices[i]&1 == 1 {
			seen[w.At] = w.Data
		}
	}
	return seen
}

// choicesOf is so many choices, the i-th odd if the i-th bit is.
func choicesOf(bits, many int) []int {
	odd := []int{1, -1, 3, math.MaxInt, math.MinInt + 1, 101}
	even := []int{0, 2, -2, math.MinInt, math.MaxInt - 1, 100}
	var l []int
	for i := range many {
		if bits>>i&1 == 1 {
			l = append(l, odd[i%len(odd)])
		} else {
			l = append(l, even[i%len(even)])
		}
	}
	return l
}

// Writes that wait, several of a sector among them.
var waiting = []api.Sector{{At: 0, Data: "p"}, {At: 1, Data: "q"}, {At: 0, Data: "r"}, {At: 2, Data: "s"}, {At: 1, Data: "t"}, {At: 0, Data: "a"}}

// 8.3: of writes that wait those survive whose choice is odd, in order, of all choices, as many as there are, fewer, or more; and it stays so.
func TestRestart(t *testing.T) {
	sure := []string{"a", "b", "c", "d"}
	for many := range len(waiting) + 3 {
		for bits := range 1 << many {
			d := made(t, sure...)
			for _, w := range waiting {
				put(t, d, w.At, w.Data)
			}
			choices := choicesOf(bits, many)
			was, ops := slices.Clone(choices), d.Ops()
			d.Restart(choices)
			if !slices.Equal(choices, was) || d.Ops() != ops || d.Down() {
				t.Errorf("Restart(%v): choices %v, Ops %d, Down %v", was, choices, d.Ops(), d.Down())
			}
			want := seenByWords(sure, waiting, choices)
			checkSeen(t, d, 0, want...)
			d.Restart(nil)
			checkSeen(t, d, 0, want...)
		}
	}
}

// 8.3: choices are of the writes that wait alone: not of those that are sure, nor of those of an earlier Restart.
func TestRestartAgain(t *testing.T) {
	d := made(t, "a", "b", "c")
	put(t, d, 0, "x")
	d.Restart([]int{0, 1, 1})
	put(t, d, 1, "y")
	put(t, d, 2, "z")
	d.Restart([]int{1, 0})
	checkSeen(t, d, 0, "a", "y", "c")
	put(t, d, 0, "v")
	d.Flush()
	put(t, d, 0, "w")
	d.Restart([]int{0, 1})
	checkSeen(t, d, 0, "v", "y", "c")
}

// 8.3: behind a Restart nothing fails, or goes down, as it was told ahead of it; also what was told of a disk that was down; it may be told anew.
func TestRestartForgets(t *testing.T) {
	for _, down := range []bool{false, true} {
		d := New(1)
		if down {
			d.DownAt(1)
			d.Flush()
		}
		for i := 1; i <= 120; i++ {
			d.Fail(d.Ops() + i)
		}
		d.DownAt(d.Ops() + 7)
		ops := d.Ops()
		d.Restart(nil)
		if got := failing(d, 20); len(got) != 0 || d.Down() || d.Ops() != ops+20 {
			t.Errorf("calls that fail: %v, Down %v, Ops %d", got, d.Down(), d.Ops())
		}
		d.Fail(d.Ops() + 3)
		d.DownAt(d.Ops() + 5)
		if got := failing(d, 20); !slices.Equal(got, []int{ops + 23}) || !d.Down() {
			t.Errorf("calls that fail: %v, Down %v", got, d.Down())
		}
	}
}

// 8.4: what waits for nothing survives all.
func TestSureSurvives(t *testing.T) {
	for bits := range 16 {
		d := made(t, "a", "b", "c")
		d.Restart(choicesOf(bits, 4))
		checkSeen(t, d, 0, "a", "b", "c")
		d.DownAt(d.Ops() + 1)
		d.Flush()
		d.Restart(choicesOf(bits, 4))
		checkSeen(t, d, 0, "a", "b", "c")
		put(t, d, 1, "x")
		d.Restart(choicesOf(bits, 4))
		if got, _ := d.Read(1); got != sector("b") && got != sector("x") {
			t.Errorf("Read(1): %q", got)
		}
		if got, _ := d.Read(0); got != sector("a") {
			t.Errorf("Read(0): %q", got)
		}
	}
}

// 8.4: of each sector one of the writes that wait there is seen, whole, or what was sure; and each of them may be.
func TestWhole(t *testing.T) {
	full := func(c string) string { return strings.Repeat(c, 64) }
	seen := map[string]int{}
	for bits := range 8 {
		d := New(2)
		d.Write(0, full("a"))
		d.Write(1, full("b"))
		d.Flush()
		for _, c := range []string{"x", "y", "z"} {
			d.Write(0, full(c))
		}
		d.Restart(choicesOf(bits, 3))
		got, e := d.Read(0)
		checkErr(t, "Read", e, api.OK)
		seen[got]++
		if other, _ := d.Read(1); other != full("b") {
			t.Errorf("Read(1): %q", other)
		}
	}
	for c, many := range map[string]int{"a": 1, "x": 1, "y": 2, "z": 4} {
		if seen[full(c)] != many {
			t.Errorf("%s is seen %d times, want %d", c, seen[full(c)], many)
		}
	}
}

// 8.1: the example of the chapter.
func TestExample(t *testing.T) {
	d := New(1)
	put(t, d, 0, "1")
	d.Flush()
	put(t, d, 0, "2")
	checkSeen(t, d, 1, "2")
	d.Restart(nil)
	checkSeen(t, d, 0, "1")
}

// Disks are each for itself.
func TestTwoDisks(t *testing.T) {
	a, b := New(2), New(2)
	put(t, a, 0, "a")
	put(t, b, 1, "b")
	a.Fail(20)
	a.DownAt(30)
	b.Flush()
	a.Restart(nil)
	checkSeen(t, a, 0, "", "")
	checkSeen(t, b, 0, "", "b")
	b.DownAt(b.Ops() + 1)
	b.Flush()
	if a.Down() || !b.Down() {
		t.Errorf("Down %v, %v", a.Down(), b.Down())
	}
}

// byWords is a disk as the chapter's words say it.
type byWords struct {
	sure   []string
	waits  []api.Sector
	ops    int
	fails  map[int]int
	downAt int
	down   bool
}

// call is what becomes of a call that, if all is well, answers with an error, or does something.
func (m *byWords) call(wrong api.Errno, isWrite bool, do func()) api.Errno {
	m.ops++
	_, fails := m.fails[m.ops]
	delete(m.fails, m.ops)
	if m.down {
		return api.ErrDown
	}
	if m.ops == m.downAt {
		m.down = true
		if isWrite && wrong == api.OK {
			do()
		}
		return api.ErrDown
	}
	if fails {
		return api.ErrIO
	}
	if wrong == api.OK {
		do()
	}
	return wrong
}

// read is 8.1's Read.
func (m *byWords) read(at int) (string, api.Errno) {
	seen, wrong := "", api.OK
	if at < 0 || at >= len(m.sure) {
		wrong = api.ErrRange
	}
	e := m.call(wrong, false, func() {
		seen = m.sure[at]
		for _, w := range m.waits {
			if w.At == at {
				seen = w.Data
			}
		}
	})
	return seen, e
}

// write is 8.1's Write.
func (m *byWords) write(at int, data string) api.Errno {
	wrong := api.OK
	if at < 0 || at >= len(m.sure) {
		wrong = api.ErrRange
	} else if len(data) != 64 {
		wrong = api.ErrSize
	}
	return m.call(wrong, true, func() { m.waits = append(m.waits, api.Sector{At: at, Data: data}) })
}

// flush is 8.1's Flush.
func (m *byWords) flush() api.Errno {
	return m.call(api.OK, false, func() {
		m.sure = seenByWords(m.sure, m.waits, choicesOf(-1, len(m.waits)))
		m.waits = nil
	})
}

// fail is 8.2's Fail.
func (m *byWords) fail(call int) {
	if call > m.ops && len(m.fails) < 100 {
		m.fails[call] = 1
	}
}

// restart is 8.3's Restart.
func (m *byWords) restart(choices []int) {
	m.sure, m.waits = seenByWords(m.sure, m.waits, choices), nil
	m.fails, m.downAt, m.down = map[int]int{}, 0, false
}

// step does the same with both, and sees that they answer the same.
func step(t *testing.T, d *Disk, m *byWords, what, n byte) {
	at := int(int8(n)) % 10
	switch what % 8 {
	case 0, 1, 2:
		data := sector(string([]byte{what, n}))[:64-int(what/8%2)]
		checkErr(t, "Write", d.Write(at, data), m.write(at, data))
	case 3:
		got, e := d.Read(at)
		want, asked := m.read(at)
		checkErr(t, "Read", e, asked)
		if got != want {
			t.Errorf("Read(%d): %q, want %q", at, got, want)
		}
	case 4:
		checkErr(t, "Flush", d.Flush(), m.flush())
	case 5:
		call := m.ops + int(int8(n))/4
		d.Fail(call)
		m.fail(call)
	case 6:
		call := m.ops + int(int8(n))/4
		d.DownAt(call)
		m.downAt = call
	case 7:
		choices := choicesOf(int(n), int(what/8))
		d.Restart(choices)
		m.restart(choices)
	}
	if d.Ops() != m.ops || d.Waits() != len(m.waits) || d.Down() != m.down || d.Sectors() != len(m.sure) {
		t.Errorf("step %d, %d: Ops %d, Waits %d, Down %v, Sectors %d, want %d, %d, %v, %d", what, n, d.Ops(), d.Waits(), d.Down(), d.Sectors(), m.ops, len(m.waits), m.down, len(m.sure))
	}
}

// walk does steps that two bytes each say, and looks at all sectors then.
func walk(t *testing.T, sectors int, steps string) {
	d := New(sectors)
	m := &byWords{sure: slices.Repeat([]string{sector("")}, min(max(sectors, 0), 1000)), fails: map[int]int{}}
	for at := 0; at+1 < min(len(steps), 2000); at += 2 {
		step(t, d, m, steps[at], steps[at+1])
	}
	for at := -1; at <= min(len(m.sure), 12); at++ {
		step(t, d, m, 3, byte(at))
	}
	step(t, d, m, 7+8*20, 0xa5)
	for at := -1; at <= min(len(m.sure), 12); at++ {
		step(t, d, m, 3, byte(at))
	}
}

// All promises, by many steps that a short rule says.
func TestManySteps(t *testing.T) {
	x := uint32(1)
	for i := range 400 {
		b := make([]byte, 600)
		for j := range b {
			x = x*1664525 + 1013904223
			b[j] = byte(x >> 24)
		}
		walk(t, i%9, string(b))
	}
}

// P1, and all promises, by any steps: of each two bytes the first says what is done, and both with what.
func FuzzDisks(f *testing.F) {
	f.Add(0, "\x00\x00\x03\x00")
	f.Add(4, "\x00\x00\x00\x01\x04\x00\x01\x00\x02\x01\x0f\x01\x03\x00\x03\x01")
	f.Add(4, "\x05\x04\x00\x00\x06\x04\x00\x01\x03\x01\x0f\x01\x03\x01")
	f.Add(-1, "\x00\x00\xff\xff")
	f.Add(math.MaxInt, "\x00\x09\x08\x09\x04\x00\x06\x80\x05\x7f")
	f.Add(math.MinInt, "\x00\x00")
	f.Fuzz(walk)
}
