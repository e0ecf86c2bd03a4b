package ring

import (
	"math"
	"slices"
	"strconv"
	"testing"

	"solder/api"
)

// Numbers of things that may wait, those that are held within bounds among them, and what they are held at.
var mosts = []struct{ asked, held int }{
	{0, 0}, {1, 1}, {2, 2}, {3, 3}, {4, 4}, {7, 7}, {8, 8}, {9, 9}, {200, 200},
	{999, 999}, {1000, 1000}, {1001, 1000}, {1 << 32, 1000}, {1<<32 + 1, 1000}, {math.MaxInt, 1000},
	{-1, 0}, {-2, 0}, {-1000, 0}, {-1 << 32, 0}, {math.MinInt, 0}, {math.MinInt + 1, 0},
}

// Numbers below 0, near and far.
var below = []int{-1, -2, -1000, -1 << 32, math.MinInt, math.MinInt + 1}

// told is what All tells, with places that are no numbers from 0 on as a fault.
func told[T any](t *testing.T, r *Ring[T]) []T {
	t.Helper()
	var l []T
	for i, x := range r.All() {
		if i != len(l) {
			t.Errorf("place %d, want %d", i, len(l))
		}
		l = append(l, x)
	}
	return l
}

// checkHas sees that just these things wait, and how many more may, by all calls that change nothing.
func checkHas[T comparable](t *testing.T, r *Ring[T], want []T, most int) {
	t.Helper()
	if got := told(t, r); !slices.Equal(got, want) {
		t.Errorf("All: %v, want %v", got, want)
	}
	if r.Len() != len(want) || r.Room() != most-len(want) {
		t.Errorf("Len %d, Room %d, want %d of %d", r.Len(), r.Room(), len(want), most)
	}
	for i, x := range want {
		if got, ok := r.At(i); got != x || !ok {
			t.Errorf("At(%d) = %v, %v, want %v", i, got, ok, x)
		}
	}
	var zero T
	for _, i := range append([]int{len(want), len(want) + 1, most, 1000, 1001, 1 << 32, math.MaxInt}, below...) {
		if i >= 0 && i < len(want) {
			continue
		}
		if got, ok := r.At(i); got != zero || ok {
			t.Errorf("At(%d) = %v, %v of %d things", i, got, ok, len(want))
		}
	}
}

// full is a ring of so many numbers, from 1 on, that begin at a slot behind the first one.
func full(t *testing.T, most, turn int) (*Ring[int], []int) {
	t.Helper()
	r := New[int](most)
	for i := range turn {
		r.Push(-i)
		r.Pop()
	}
	var l []int
	for i := range most {
		if e := r.Push(i + 1); e != api.OK {
			t.Fatalf("Push of %d of %d: error %d", i, most, e)
		}
		l = append(l, i+1)
	}
	return r, l
}

// 6.1: a new one has no things, and as many may wait as it was asked for, held from 0 to 1000.
func TestNew(t *testing.T) {
	for _, c := range mosts {
		checkHas(t, New[int](c.asked), nil, c.held)
	}
}

// 6.1: as many as may wait can be pushed; one more is refused, and changes nothing; one that is popped makes room.
func TestPushFull(t *testing.T) {
	for _, c := range mosts {
		r := New[int](c.asked)
		var want []int
		for i := range c.held {
			if e := r.Push(i + 1); e != api.OK {
				t.Fatalf("Push of %d of %d: error %d", i, c.asked, e)
			}
			want = append(want, i+1)
		}
		for range 2 {
			if e := r.Push(-9); e != api.ErrFull {
				t.Errorf("Push to a full one of %d: error %d", c.asked, e)
			}
			checkHas(t, r, want, c.held)
		}
		if c.held == 0 {
			continue
		}
		r.Pop()
		if e := r.Push(77); e != api.OK {
			t.Errorf("Push to one of %d with room: error %d", c.asked, e)
		}
		checkHas(t, r, append(want[1:], 77), c.held)
	}
}

// 6.1: the example of the chapter.
func TestExample(t *testing.T) {
	r := New[int](1)
	if e := r.Push(5); e != api.OK {
		t.Errorf("Push 5: error %d", e)
	}
	if e := r.Push(6); e != api.ErrFull {
		t.Errorf("Push 6: error %d", e)
	}
	if x, ok := r.Pop(); x != 5 || !ok {
		t.Errorf("Pop = %d, %v", x, ok)
	}
}

// 6.1: what is popped is the first one, and waits no more; zero and false, if there is none, however often.
func TestPop(t *testing.T) {
	for turn := range 4 {
		r, want := full(t, 3, turn)
		for len(want) > 0 {
			if x, ok := r.Pop(); x != want[0] || !ok {
				t.Errorf("Pop = %d, %v, want %d", x, ok, want[0])
			}
			want = want[1:]
			checkHas(t, r, want, 3)
		}
		for range 3 {
			if x, ok := r.Pop(); x != 0 || ok {
				t.Errorf("Pop of none = %d, %v", x, ok)
			}
			checkHas(t, r, nil, 3)
		}
	}
}

// 6.1: a zero that waits is popped with true.
func TestPopZero(t *testing.T) {
	r := New[string](2)
	r.Push("")
	if x, ok := r.At(0); x != "" || !ok {
		t.Errorf("At(0) = %q, %v", x, ok)
	}
	if x, ok := r.Pop(); x != "" || !ok {
		t.Errorf("Pop = %q, %v", x, ok)
	}
	if x, ok := r.Pop(); x != "" || ok {
		t.Errorf("Pop of none = %q, %v", x, ok)
	}
}

// 6.1: the first n wait no more; all, if there are fewer; none of n below 0; and how many is told. The rest goes on as before.
func TestDrop(t *testing.T) {
	for _, most := range []int{0, 1, 2, 5, 8} {
		for turn := range most + 1 {
			for _, n := range append([]int{0, 1, 2, 3, 4, 5, 7, 8, 9, 1000, 1001, 1 << 32, math.MaxInt}, below...) {
				r, want := full(t, most, turn)
				many := min(max(n, 0), most)
				if got := r.Drop(n); got != many {
					t.Errorf("Drop(%d) of %d = %d", n, most, got)
				}
				checkHas(t, r, want[many:], most)
				if many > 0 {
					r.Push(70)
					checkHas(t, r, append(want[many:], 70), most)
				}
			}
		}
	}
}

// 6.1: things are dropped from one that is not full too, and one behind the other.
func TestDropSome(t *testing.T) {
	r := New[string](6)
	for _, x := range []string{"a", "b", "c", "d"} {
		r.Push(x)
	}
	for _, c := range []struct {
		n, want int
		rest    []string
	}{{1, 1, []string{"b", "c", "d"}}, {0, 0, []string{"b", "c", "d"}}, {2, 2, []string{"d"}}, {-1, 0, []string{"d"}}, {2, 1, nil}, {1, 0, nil}} {
		if got := r.Drop(c.n); got != c.want {
			t.Errorf("Drop(%d) = %d, want %d", c.n, got, c.want)
		}
		checkHas(t, r, c.rest, 6)
	}
}

// 6.2: All tells places and things in order, as long as yield answers true, and yield is asked no more behind that.
func TestAllStops(t *testing.T) {
	for turn := range 5 {
		r, want := full(t, 4, turn)
		for stop := range 6 {
			var places, got []int
			r.All()(func(i, x int) bool {
				places, got = append(places, i), append(got, x)
				return len(got) <= stop
			})
			many := min(stop+1, 4)
			if !slices.Equal(got, want[:many]) || !slices.Equal(places, []int{0, 1, 2, 3}[:many]) {
				t.Errorf("stopped behind %d: %v at %v", stop, got, places)
			}
			checkHas(t, r, want, 4)
		}
	}
}

// 6.2: All can be gone through again, and tells what waits when it is gone through.
func TestAllAgain(t *testing.T) {
	r := New[int](4)
	all := r.All()
	for range all {
		t.Errorf("a thing of none")
	}
	r.Push(1)
	r.Push(2)
	for range 2 {
		var got []int
		for _, x := range all {
			got = append(got, x)
		}
		if !slices.Equal(got, []int{1, 2}) {
			t.Errorf("All: %v", got)
		}
	}
}

// P1, 6.2: All ends, and tells each thing that waited once, though things are popped, pushed and dropped meanwhile.
func TestAllWhileChanged(t *testing.T) {
	for name, change := range map[string]func(r *Ring[int], x int){
		"popped and pushed": func(r *Ring[int], x int) { r.Pop(); r.Push(x + 100) },
		"popped":            func(r *Ring[int], x int) { r.Pop() },
		"pushed":            func(r *Ring[int], x int) { r.Push(x + 100) },
		"dropped":           func(r *Ring[int], x int) { r.Drop(1000) },
	} {
		for turn := range 5 {
			r, want := full(t, 4, turn)
			var got []int
			for i, x := range r.All() {
				if i != len(got) || i >= len(want) {
					t.Fatalf("%s: place %d behind %v", name, i, got)
				}
				got = append(got, x)
				change(r, x)
			}
			if !slices.Equal(got, want) {
				t.Errorf("%s: %v, want %v", name, got, want)
			}
		}
	}
}

// P1, 6.2: All that is pushed to meanwhile ends where there is much room, and what was pushed waits.
func TestAllWhilePushed(t *testing.T) {
	r := New[int](1000)
	r.Push(1)
	r.Push(2)
	var got []int
	for _, x := range r.All() {
		got = append(got, x)
		r.Push(x + 10)
	}
	if !slices.Equal(got, []int{1, 2}) {
		t.Errorf("All: %v", got)
	}
	checkHas(t, r, []int{1, 2, 11, 12}, 1000)
}

// P1: no yield at all is nobody to tell.
func TestAllNoYield(t *testing.T) {
	r, want := full(t, 2, 1)
	r.All()(nil)
	checkHas(t, r, want, 2)
	(*Ring[int])(nil).All()(nil)
}

// 6.2: of nil: ErrState, zero, false, 0, nothing.
func TestNil(t *testing.T) {
	var r *Ring[string]
	if e := r.Push("x"); e != api.ErrState {
		t.Errorf("Push: error %d", e)
	}
	if x, ok := r.Pop(); x != "" || ok {
		t.Errorf("Pop = %q, %v", x, ok)
	}
	for _, n := range append([]int{0, 1, 2, 1000, math.MaxInt}, below...) {
		if got := r.Drop(n); got != 0 {
			t.Errorf("Drop(%d) = %d", n, got)
		}
		if x, ok := r.At(n); x != "" || ok {
			t.Errorf("At(%d) = %q, %v", n, x, ok)
		}
	}
	if r.Len() != 0 || r.Room() != 0 {
		t.Errorf("Len %d, Room %d", r.Len(), r.Room())
	}
	for i, x := range r.All() {
		t.Errorf("All: %d, %q", i, x)
	}
}

// P1: a ring that New did not make has no room.
func TestNotMade(t *testing.T) {
	var r Ring[string]
	if e := r.Push("x"); e != api.ErrFull {
		t.Errorf("Push: error %d", e)
	}
	if x, ok := r.Pop(); x != "" || ok || r.Drop(1) != 0 {
		t.Errorf("Pop = %q, %v", x, ok)
	}
	checkHas(t, &r, nil, 0)
}

// 6.1: rings are each for itself.
func TestTwoRings(t *testing.T) {
	a, b := New[int](2), New[int](2)
	a.Push(1)
	b.Push(2)
	b.Push(3)
	checkHas(t, a, []int{1}, 2)
	checkHas(t, b, []int{2, 3}, 2)
}

// 6.1, 6.2: things are of any type, also of one whose things can't be compared, or have no bytes.
func TestAnyType(t *testing.T) {
	f := New[func() int](2)
	f.Push(func() int { return 4 })
	f.Push(nil)
	if x, ok := f.Pop(); !ok || x() != 4 {
		t.Errorf("a function: %v", ok)
	}
	if x, ok := f.Pop(); !ok || x != nil {
		t.Errorf("a nil: %v", ok)
	}
	l := New[[]string](1)
	l.Push([]string{"a", "b"})
	if x, ok := l.At(0); !ok || !slices.Equal(x, []string{"a", "b"}) {
		t.Errorf("a list: %v, %v", x, ok)
	}
	e := New[struct{}](1000)
	for range 1000 {
		e.Push(struct{}{})
	}
	if e.Push(struct{}{}) != api.ErrFull || e.Drop(999) != 999 || e.Len() != 1 {
		t.Errorf("things without bytes: %d left", e.Len())
	}
	v := New[api.Vector](3)
	v.Push(api.Vector{A: 1, B: 2})
	checkHas(t, v, []api.Vector{{A: 1, B: 2}}, 3)
	r := New[*Ring[int]](3)
	inner := New[int](1)
	r.Push(inner)
	checkHas(t, r, []*Ring[int]{inner}, 3)
}

// What waits no more is held no more.
func TestLetGo(t *testing.T) {
	r := New[*int](5)
	for i := range 23 {
		r.Push(&i)
		if i%3 == 2 {
			r.Pop()
			r.Drop(i % 4)
		}
		held := 0
		for _, p := range r.slots {
			if p != nil {
				held++
			}
		}
		if held != r.Len() {
			t.Errorf("%d are held, %d wait", held, r.Len())
		}
	}
}

// 6.3: what is pushed is popped in that order, each once, round and round, with any number of things between.
func TestOrder(t *testing.T) {
	for _, most := range []int{1, 2, 3, 7, 8, 1000} {
		for between := range min(most, 9) {
			r := New[string](most)
			next := 0
			for i := range 3*most + 50 {
				if e := r.Push(strconv.Itoa(i)); e != api.OK {
					t.Fatalf("Push of %d, at most %d: error %d", i, most, e)
				}
				if r.Len() <= between {
					continue
				}
				if x, ok := r.Pop(); x != strconv.Itoa(next) || !ok {
					t.Fatalf("Pop = %q, %v, want %d", x, ok, next)
				}
				next++
			}
			for x, ok := r.Pop(); ok; x, ok = r.Pop() {
				if x != strconv.Itoa(next) {
					t.Fatalf("Pop = %q, want %d", x, next)
				}
				next++
			}
			if next != 3*most+50 {
				t.Errorf("popped %d of %d, at most %d", next, 3*most+50, most)
			}
		}
	}
}

// byWords is a ring by the document's words, for what a list of steps comes to.
type byWords struct {
	l    []int
	most int
}

// step does what a byte says on a ring and on a list, and sees that both answer the same.
func (w *byWords) step(t *testing.T, r *Ring[int], x int, what byte) {
	t.Helper()
	switch n := int(int8(what)) / 4; what % 4 {
	case 0, 1:
		want := api.OK
		if len(w.l) >= w.most {
			want = api.ErrFull
		} else {
			w.l = append(w.l, x)
		}
		if e := r.Push(x); e != want {
			t.Errorf("Push(%d): error %d, want %d", x, e, want)
		}
	case 2:
		var want int
		had := len(w.l) > 0
		if had {
			want, w.l = w.l[0], w.l[1:]
		}
		if got, ok := r.Pop(); got != want || ok != had {
			t.Errorf("Pop = %d, %v, want %d, %v", got, ok, want, had)
		}
	case 3:
		want := 0
		for ; want < n && len(w.l) > 0; want++ {
			w.l = w.l[1:]
		}
		if got := r.Drop(n); got != want {
			t.Errorf("Drop(%d) = %d, want %d", n, got, want)
		}
	}
	checkHas(t, r, w.l, w.most)
}

// P1, and all promises, by any steps.
func FuzzRings(f *testing.F) {
	f.Add(0, "\x00\x02\x03")
	f.Add(1, "\x00\x00\x02\x02\x00\x07\xff")
	f.Add(3, "\x00\x00\x02\x00\x00\x02\x00\x0b\x00\x00\x00\x7f\x80")
	f.Add(8, "\x00\x01\x00\x01\x00\x01\x00\x01\x00\x02\x02\x0f\x00\x01\x00\x01\x00\x01\x00\x13\x00")
	f.Add(-1, "\x00")
	f.Add(math.MaxInt, "\x00\x01\x02\x03\x04\x05\x06\x07")
	f.Add(math.MinInt, "\x00\x02")
	f.Fuzz(func(t *testing.T, most int, steps string) {
		r, w := New[int](most), &byWords{most: min(max(most, 0), 1000)}
		for i := range min(len(steps), 1500) {
			w.step(t, r, i+1, steps[i])
		}
	})
}
