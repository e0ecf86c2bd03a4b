package region

import (
	"math"
	"slices"
	"strings"
	"testing"

	"solder/api"
	"solder/disk"
)

// Numbers below 0, near and far.
var below = []int{-1, -2, -64, -1000, -1 << 32, math.MinInt, math.MinInt + 1}

// Numbers that are beyond any disk, and such as wrap round if something is added.
var beyond = []int{1001, 1 << 32, 1<<32 + 1, math.MaxInt/2 + 1, math.MaxInt - 1, math.MaxInt}

// Numbers of bytes that are no whole sectors.
var partial = []int{1, 2, 63, 65, 100, 127, 129, 191, 193, 64<<10 - 1, 64<<10 + 1}

// text is so many sectors' bytes, each sector another one, that begin with a letter of their own.
func text(letter byte, many int) string {
	var b strings.Builder
	for k := range many {
		b.WriteString(string([]byte{letter, byte(k), byte(k >> 8)}) + strings.Repeat(string([]byte{letter}), 61))
	}
	return b.String()
}

// made is a disk of so many sectors that all have bytes of their own, for sure, and those bytes.
func made(t *testing.T, sectors int) (*disk.Disk, []string) {
	t.Helper()
	d := disk.New(sectors)
	var want []string
	for at := range d.Sectors() {
		want = append(want, text('d', at+1)[64*at:])
		checkErr(t, "Write of the disk", d.Write(at, want[at]), api.OK)
	}
	checkErr(t, "Flush of the disk", d.Flush(), api.OK)
	return d, want
}

// part is a region that there has to be.
func part(t *testing.T, d *disk.Disk, from, many int) *Region {
	t.Helper()
	r, e := New(d, from, many)
	if r == nil || e != api.OK {
		t.Fatalf("New(%d, %d): %v, error %d", from, many, r, e)
	}
	return r
}

// checkErr sees that an error is the one that is asked for.
func checkErr(t *testing.T, what string, got, want api.Errno) {
	t.Helper()
	if got != want {
		t.Errorf("%s: error %d, want %d", what, got, want)
	}
}

// checkDisk sees that the disk has just these bytes.
func checkDisk(t *testing.T, d *disk.Disk, want []string) {
	t.Helper()
	for at, data := range want {
		if got, e := d.Read(at); got != data || e != api.OK {
			t.Errorf("sector %d: %q, error %d, want %q", at, got, e, data)
		}
	}
}

// checkRead sees what a Read answers.
func checkRead(t *testing.T, r *Region, i, many int, want string, wantErr api.Errno) {
	t.Helper()
	if got, e := r.Read(i, many); got != want || e != wantErr {
		t.Errorf("Read(%d, %d): %q, error %d, want %q, %d", i, many, got, e, want, wantErr)
	}
}

// checkRefused sees that Split and Write answer an error, and that the disk is not asked.
func checkRefused(t *testing.T, d *disk.Disk, r *Region, i int, data string, want api.Errno) {
	t.Helper()
	ops := d.Ops()
	if got, e := r.Split(i, data); len(got) != 0 || e != want {
		t.Errorf("Split(%d, %d bytes): %v, error %d, want %d", i, len(data), got, e, want)
	}
	checkErr(t, "Write", r.Write(i, data), want)
	if d.Ops() != ops {
		t.Errorf("Write(%d, %d bytes) asked the disk", i, len(data))
	}
}

// 9.1: of a disk each piece of it is a region, also one of no sectors, and nothing that reaches beyond.
func TestNew(t *testing.T) {
	for _, sectors := range []int{0, 1, 2, 7} {
		d := disk.New(sectors)
		for from := -2; from <= sectors+2; from++ {
			for many := -2; many <= sectors+2; many++ {
				r, e := New(d, from, many)
				if from >= 0 && many >= 0 && from+many <= sectors {
					if r == nil || e != api.OK || r.Many() != many {
						t.Errorf("New(%d, %d) of %d: %v, error %d", from, many, sectors, r, e)
					}
				} else if r != nil || e != api.ErrRange {
					t.Errorf("New(%d, %d) of %d: %v, error %d", from, many, sectors, r, e)
				}
			}
		}
		if d.Ops() != 0 {
			t.Errorf("New asked the disk %d times", d.Ops())
		}
	}
}

// 9.1: numbers that are far off are refused, also those whose sum wraps round into the disk.
func TestNewFar(t *testing.T) {
	d := disk.New(1000)
	far := append(append([]int{}, below...), beyond...)
	for _, x := range far {
		for _, y := range append([]int{0, 1, 500, 1000}, far...) {
			for _, c := range [][2]int{{x, y}, {y, x}} {
				if r, e := New(d, c[0], c[1]); r != nil || e != api.ErrRange {
					t.Errorf("New(%d, %d): %v, error %d", c[0], c[1], r, e)
				}
			}
		}
	}
	if r := part(t, d, 0, 1000); r.Many() != 1000 {
		t.Errorf("Many %d", r.Many())
	}
	if r := part(t, d, 1000, 0); r.Many() != 0 {
		t.Errorf("Many %d", r.Many())
	}
}

// 9.1: places are those of the disk, each within, and none beside.
func TestPlace(t *testing.T) {
	d := disk.New(9)
	for from := range 10 {
		for many := range 10 - from {
			r := part(t, d, from, many)
			for i := range many {
				if got, e := r.Place(i); got != from+i || e != api.OK {
					t.Errorf("Place(%d) from %d: %d, error %d", i, from, got, e)
				}
			}
			for _, i := range append(append([]int{many, many + 1, -from, -from - 1}, below...), beyond...) {
				if i >= 0 && i < many {
					continue
				}
				if got, e := r.Place(i); got != 0 || e != api.ErrRange {
					t.Errorf("Place(%d) of %d: %d, error %d", i, many, got, e)
				}
			}
		}
	}
	if d.Ops() != 0 {
		t.Errorf("Place asked the disk %d times", d.Ops())
	}
}

// 9.1: the example of the chapter.
func TestExample(t *testing.T) {
	r := part(t, disk.New(8), 3, 2)
	if got, e := r.Place(1); got != 4 || e != api.OK {
		t.Errorf("Place(1): %d, error %d", got, e)
	}
	if got, e := r.Place(2); got != 0 || e != api.ErrRange {
		t.Errorf("Place(2): %d, error %d", got, e)
	}
}

// 9.1, 9.2: of nil 0 and ErrState, whatever else is wrong.
func TestNil(t *testing.T) {
	var r *Region
	if r.Many() != 0 {
		t.Errorf("Many %d", r.Many())
	}
	for _, i := range append(append([]int{0, 1}, below...), beyond...) {
		if got, e := r.Place(i); got != 0 || e != api.ErrState {
			t.Errorf("Place(%d): %d, error %d", i, got, e)
		}
		for _, many := range []int{0, 1, -1, math.MinInt, math.MaxInt} {
			checkRead(t, r, i, many, "", api.ErrState)
		}
		for _, data := range []string{"", "a", text('a', 1), text('a', 2)} {
			if got, e := r.Split(i, data); len(got) != 0 || e != api.ErrState {
				t.Errorf("Split(%d): %v, error %d", i, got, e)
			}
			checkErr(t, "Write", r.Write(i, data), api.ErrState)
		}
	}
	checkErr(t, "Flush", r.Flush(), api.ErrState)
}

// P1: a disk that is nil has no sectors (8.1), and a region that New did not make has none either.
func TestNoDisk(t *testing.T) {
	for _, c := range [][2]int{{0, 1}, {1, 0}, {-1, 0}, {0, -1}, {0, math.MaxInt}, {math.MaxInt, math.MaxInt}} {
		if r, e := New(nil, c[0], c[1]); r != nil || e != api.ErrRange {
			t.Errorf("New(nil, %d, %d): %v, error %d", c[0], c[1], r, e)
		}
	}
	for name, r := range map[string]*Region{"of nil": part(t, nil, 0, 0), "not made": {}} {
		if r.Many() != 0 {
			t.Errorf("%s: Many %d", name, r.Many())
		}
		if got, e := r.Place(0); got != 0 || e != api.ErrRange {
			t.Errorf("%s: Place(0): %d, error %d", name, got, e)
		}
		checkRead(t, r, 0, 0, "", api.OK)
		checkRead(t, r, 0, 1, "", api.ErrRange)
		checkErr(t, name, r.Write(0, ""), api.OK)
		checkErr(t, name, r.Write(0, text('a', 1)), api.ErrRange)
		checkErr(t, name, r.Write(0, "a"), api.ErrSize)
		checkErr(t, name, r.Flush(), api.ErrState)
	}
}

// 9.2: of each piece of each region the bytes are read one behind the other; what reaches beyond is refused.
func TestRead(t *testing.T) {
	d, want := made(t, 6)
	for from := range 7 {
		for many := range 7 - from {
			r := part(t, d, from, many)
			for i := -1; i <= many+2; i++ {
				for n := -1; n <= many+2; n++ {
					if i >= 0 && n >= 0 && i+n <= many {
						checkRead(t, r, i, n, strings.Join(want[from+i:from+i+n], ""), api.OK)
					} else {
						checkRead(t, r, i, n, "", api.ErrRange)
					}
				}
			}
		}
	}
	checkDisk(t, d, want)
}

// 9.2: numbers that are far off are refused, also those whose sum wraps round into the region, and the disk is not asked.
func TestReadFar(t *testing.T) {
	d, _ := made(t, 6)
	r := part(t, d, 2, 3)
	ops := d.Ops()
	far := append(append([]int{}, below...), beyond...)
	for _, x := range far {
		for _, y := range append([]int{0, 1, 3}, far...) {
			checkRead(t, r, x, y, "", api.ErrRange)
			checkRead(t, r, y, x, "", api.ErrRange)
		}
	}
	if d.Ops() != ops {
		t.Errorf("the disk was asked %d times", d.Ops()-ops)
	}
}

// 9.2: a whole disk of the most sectors is written and read at once.
func TestWholeDisk(t *testing.T) {
	d := disk.New(1000)
	r := part(t, d, 0, 1000)
	data := text('w', 1000)
	checkErr(t, "Write", r.Write(0, data), api.OK)
	checkErr(t, "Flush", r.Flush(), api.OK)
	checkRead(t, r, 0, 1000, data, api.OK)
	checkRead(t, r, 999, 1, data[999*64:], api.OK)
	checkRefused(t, d, r, 1, data, api.ErrRange)
	checkRefused(t, d, r, 0, text('x', 1001), api.ErrRange)
}

// 9.2: bytes are split into the disk's sectors, in order, each with its own; what reaches beyond is refused.
func TestSplit(t *testing.T) {
	d := disk.New(6)
	for from := range 7 {
		for many := range 7 - from {
			r := part(t, d, from, many)
			for i := -1; i <= many+2; i++ {
				for n := range many + 3 {
					data := text('s', n)
					var want []api.Sector
					for k := range n {
						want = append(want, api.Sector{At: from + i + k, Data: data[64*k : 64*k+64]})
					}
					if i < 0 || i+n > many {
						checkRefused(t, d, r, i, data, api.ErrRange)
					} else if got, e := r.Split(i, data); !slices.Equal(got, want) || e != api.OK {
						t.Errorf("Split(%d, %d sectors) from %d: %v, error %d", i, n, from, got, e)
					}
				}
			}
		}
	}
	if d.Ops() != 0 || d.Waits() != 0 {
		t.Errorf("Split asked the disk %d times", d.Ops())
	}
}

// 9.2: places that are far off are refused, also with no bytes.
func TestSplitFar(t *testing.T) {
	d := disk.New(6)
	r := part(t, d, 2, 3)
	for _, i := range append(append([]int{4, 5}, below...), beyond...) {
		for n := range 4 {
			checkRefused(t, d, r, i, text('s', n), api.ErrRange)
		}
	}
}

// 9.2: bytes that are no whole sectors are refused, and that is told ahead of a wrong place.
func TestSplitSize(t *testing.T) {
	d, want := made(t, 6)
	r := part(t, d, 2, 3)
	for _, size := range partial {
		data := strings.Repeat("p", size)
		for _, i := range append(append([]int{0, 1, 2, 3, 4}, below...), beyond...) {
			checkRefused(t, d, r, i, data, api.ErrSize)
		}
	}
	checkDisk(t, d, want)
}

// 9.2: what one Split answers is nobody else's: it may be changed, and the next one answers the same.
func TestSplitOwn(t *testing.T) {
	r := part(t, disk.New(4), 1, 3)
	data := text('s', 3)
	first, _ := r.Split(0, data)
	want := slices.Clone(first)
	clear(first)
	if again, e := r.Split(0, data); !slices.Equal(again, want) || e != api.OK {
		t.Errorf("Split: %v, error %d", again, e)
	}
}

// 9.2, 9.4: what is written is read there, from the disk too, and no other sector changes; what is refused changes none.
func TestWrite(t *testing.T) {
	for from := range 7 {
		for many := range 7 - from {
			d, want := made(t, 6)
			r := part(t, d, from, many)
			for i := -1; i <= many+1; i++ {
				for n := range many + 2 {
					data := text(byte('e'+n), n)
					if i < 0 || i+n > many {
						checkRefused(t, d, r, i, data, api.ErrRange)
						checkDisk(t, d, want)
						continue
					}
					checkErr(t, "Write", r.Write(i, data), api.OK)
					for k := range n {
						want[from+i+k] = data[64*k : 64*k+64]
					}
					checkRead(t, r, i, n, data, api.OK)
					checkDisk(t, d, want)
				}
			}
		}
	}
}

// 9.2: each sector is one write of the disk, in order, and waits till a Flush.
func TestWriteWaits(t *testing.T) {
	d, want := made(t, 6)
	r := part(t, d, 1, 4)
	data := text('x', 3)
	ops := d.Ops()
	checkErr(t, "Write", r.Write(1, data), api.OK)
	if d.Waits() != 3 || d.Ops() != ops+3 {
		t.Errorf("Waits %d, calls %d", d.Waits(), d.Ops()-ops)
	}
	d.Restart([]int{0, 1, 0})
	want[3] = data[64:128]
	checkDisk(t, d, want)
	checkErr(t, "Write", r.Write(0, data), api.OK)
	checkErr(t, "Flush", r.Flush(), api.OK)
	if d.Waits() != 0 {
		t.Errorf("Waits %d", d.Waits())
	}
	d.Restart(nil)
	checkRead(t, r, 0, 3, data, api.OK)
}

// 9.2: no bytes are no call of the disk, also one that is down, at each place up to the end.
func TestNoBytes(t *testing.T) {
	d, _ := made(t, 6)
	r := part(t, d, 2, 3)
	d.DownAt(d.Ops() + 1)
	checkErr(t, "Flush", r.Flush(), api.ErrDown)
	ops := d.Ops()
	for i := range 4 {
		checkErr(t, "Write", r.Write(i, ""), api.OK)
		checkRead(t, r, i, 0, "", api.OK)
		if got, e := r.Split(i, ""); len(got) != 0 || e != api.OK {
			t.Errorf("Split(%d): %v, error %d", i, got, e)
		}
	}
	if d.Ops() != ops {
		t.Errorf("the disk was asked %d times", d.Ops()-ops)
	}
}

// 9.2: a Read whose call of the disk fails, at any of them, has no bytes; the next one has all.
func TestReadFails(t *testing.T) {
	d, want := made(t, 6)
	r := part(t, d, 1, 4)
	for k := 1; k <= 4; k++ {
		d.Fail(d.Ops() + k)
		checkRead(t, r, 0, 4, "", api.ErrIO)
		checkRead(t, r, 0, 4, strings.Join(want[1:5], ""), api.OK)
	}
	for k := 1; k <= 4; k++ {
		d.DownAt(d.Ops() + k)
		checkRead(t, r, 0, 4, "", api.ErrDown)
		checkRead(t, r, 0, 4, "", api.ErrDown)
		d.Restart(nil)
		checkRead(t, r, 0, 4, strings.Join(want[1:5], ""), api.OK)
	}
}

// 9.2: of several errors of the disk the first is answered.
func TestFirstError(t *testing.T) {
	for name, call := range map[string]func(r *Region) api.Errno{
		"Read":  func(r *Region) api.Errno { _, e := r.Read(0, 4); return e },
		"Write": func(r *Region) api.Errno { return r.Write(0, text('x', 4)) },
	} {
		d, _ := made(t, 6)
		r := part(t, d, 1, 4)
		d.Fail(d.Ops() + 2)
		d.DownAt(d.Ops() + 3)
		checkErr(t, name, call(r), api.ErrIO)
		d.Restart(nil)
		d.DownAt(d.Ops() + 2)
		d.Fail(d.Ops() + 3)
		checkErr(t, name, call(r), api.ErrDown)
	}
}

// 9.2: up to the one that fails sectors are written, and none from it on.
func TestWriteFails(t *testing.T) {
	for k := range 4 {
		d, want := made(t, 6)
		r := part(t, d, 1, 4)
		data := text('x', 4)
		ops := d.Ops()
		d.Fail(ops + 1 + k)
		checkErr(t, "Write", r.Write(0, data), api.ErrIO)
		if d.Waits() != k || d.Ops() != ops+1+k {
			t.Errorf("failed at %d: Waits %d, calls %d", k, d.Waits(), d.Ops()-ops)
		}
		for j := range k {
			want[1+j] = data[64*j : 64*j+64]
		}
		checkDisk(t, d, want)
		checkErr(t, "Write", r.Write(0, data), api.OK)
		checkRead(t, r, 0, 4, data, api.OK)
	}
}

// 9.2: up to the one at which the disk goes down sectors are written, and none behind it; that one may survive (8.1).
func TestWriteGoesDown(t *testing.T) {
	for k := range 4 {
		d, want := made(t, 6)
		r := part(t, d, 1, 4)
		data := text('x', 4)
		d.DownAt(d.Ops() + 1 + k)
		checkErr(t, "Write", r.Write(0, data), api.ErrDown)
		if d.Waits() != k+1 {
			t.Errorf("down at %d: Waits %d", k, d.Waits())
		}
		d.Restart([]int{1, 1, 1, 1})
		for j := range k + 1 {
			want[1+j] = data[64*j : 64*j+64]
		}
		checkDisk(t, d, want)
	}
}

// 9.2: Flush is the disk's, with its errors, and makes sure of all that it has, also beside the region.
func TestFlush(t *testing.T) {
	d, want := made(t, 6)
	r := part(t, d, 2, 1)
	want[0], want[2] = text('y', 1), text('x', 1)
	checkErr(t, "Write of the disk", d.Write(0, want[0]), api.OK)
	checkErr(t, "Write", r.Write(0, want[2]), api.OK)
	d.Fail(d.Ops() + 1)
	checkErr(t, "Flush", r.Flush(), api.ErrIO)
	if d.Waits() != 2 {
		t.Errorf("Waits %d", d.Waits())
	}
	ops := d.Ops()
	checkErr(t, "Flush", r.Flush(), api.OK)
	if d.Waits() != 0 || d.Ops() != ops+1 {
		t.Errorf("Waits %d, calls %d", d.Waits(), d.Ops()-ops)
	}
	d.Restart(nil)
	checkDisk(t, d, want)
	d.DownAt(d.Ops() + 1)
	checkErr(t, "Flush", r.Flush(), api.ErrDown)
	checkErr(t, "Flush", r.Flush(), api.ErrDown)
	d.Restart(nil)
	checkErr(t, "Flush of no sectors", part(t, d, 6, 0).Flush(), api.OK)
}

// 9.3: of each length as few bytes 0 come behind as make whole sectors, and what was there stays.
func TestPad(t *testing.T) {
	for size := range 64*3 + 2 {
		for _, s := range []string{strings.Repeat("x", size), strings.Repeat("\x00", size), strings.Repeat("\xff", size)} {
			got := Pad(s)
			if !strings.HasPrefix(got, s) || len(got)%64 != 0 || len(got)-size >= 64 || strings.Trim(got[size:], "\x00") != "" {
				t.Errorf("Pad of %d bytes: %q", size, got)
			}
		}
	}
	for _, c := range []struct{ size, want int }{{0, 0}, {1, 64}, {63, 64}, {64, 64}, {65, 128}, {128, 128}, {64<<14 - 1, 64 << 14}, {64<<14 + 1, 64<<14 + 64}} {
		if got := len(Pad(strings.Repeat("x", c.size))); got != c.want {
			t.Errorf("Pad of %d bytes has %d, want %d", c.size, got, c.want)
		}
	}
	if got := Pad("a\x00b\n"); got != "a\x00b\n"+strings.Repeat("\x00", 60) {
		t.Errorf("Pad: %q", got)
	}
}

// 9.2, 9.3: what was padded is written and read.
func TestPadWritten(t *testing.T) {
	d := disk.New(4)
	r := part(t, d, 1, 3)
	for _, size := range []int{0, 1, 63, 64, 65, 130, 192} {
		s := Pad(strings.Repeat("z", size))
		checkErr(t, "Write", r.Write(0, s), api.OK)
		checkRead(t, r, 0, len(s)/64, s, api.OK)
	}
}

// 9.4: regions of one disk that lie beside each other leave one another's sectors, and those that overlap see them.
func TestTwoRegions(t *testing.T) {
	d := disk.New(8)
	a, b, both := part(t, d, 1, 3), part(t, d, 4, 3), part(t, d, 2, 4)
	left, right := text('l', 3), text('r', 3)
	checkErr(t, "Write", a.Write(0, left), api.OK)
	checkErr(t, "Write", b.Write(0, right), api.OK)
	checkRead(t, a, 0, 3, left, api.OK)
	checkRead(t, b, 0, 3, right, api.OK)
	checkRead(t, both, 0, 4, left[64:]+right[:128], api.OK)
	checkErr(t, "Write", both.Write(1, text('m', 2)), api.OK)
	checkRead(t, a, 0, 3, left[:128]+text('m', 2)[:64], api.OK)
	checkRead(t, b, 0, 3, text('m', 2)[64:]+right[64:], api.OK)
	zeros := strings.Repeat("\x00", 64)
	for _, at := range []int{0, 7} {
		if got, e := d.Read(at); got != zeros || e != api.OK {
			t.Errorf("sector %d: %q, error %d", at, got, e)
		}
	}
}

// byWords sees that a region from 2 on, of 5 sectors, answers as the chapter's words say of a list of all sectors.
func byWords(t *testing.T, d *disk.Disk, r *Region, want []string, i, many int, data string) {
	t.Helper()
	if i < 0 || many < 0 || i > 5 || many > 5-i {
		checkRead(t, r, i, many, "", api.ErrRange)
	} else {
		checkRead(t, r, i, many, strings.Join(want[2+i:2+i+many], ""), api.OK)
	}
	switch {
	case len(data)%64 != 0:
		checkRefused(t, d, r, i, data, api.ErrSize)
	case i < 0 || i > 5 || len(data)/64 > 5-i:
		checkRefused(t, d, r, i, data, api.ErrRange)
	default:
		checkErr(t, "Write", r.Write(i, data), api.OK)
		for k := range len(data) / 64 {
			want[2+i+k] = data[64*k : 64*k+64]
		}
	}
	checkDisk(t, d, want)
}

// P1, and all promises, by any numbers and bytes.
func FuzzRegions(f *testing.F) {
	f.Add(0, 0, "")
	f.Add(1, 2, "abc")
	f.Add(2, 3, text('f', 3))
	f.Add(5, 0, "")
	f.Add(6, 0, text('f', 1))
	f.Add(-1, 1, strings.Repeat("\x00", 64))
	f.Add(1, -1, strings.Repeat("a", 65))
	f.Add(math.MaxInt, math.MaxInt, text('f', 5))
	f.Add(math.MinInt, math.MinInt, text('f', 6))
	f.Fuzz(func(t *testing.T, i, many int, data string) {
		d, want := made(t, 8)
		r := part(t, d, 2, 5)
		byWords(t, d, r, want, i, many, data)
		byWords(t, d, r, want, i, many, Pad(data))
		if from, e := New(d, i, many); (e == api.OK) != (i >= 0 && many >= 0 && i <= 8 && many <= 8-i) || (from == nil) != (e == api.ErrRange) {
			t.Errorf("New(%d, %d): %v, error %d", i, many, from, e)
		}
		if at, e := r.Place(i); (e == api.OK) != (i >= 0 && i < 5) || e == api.OK && at != 2+i {
			t.Errorf("Place(%d): %d, error %d", i, at, e)
		}
	})
}
