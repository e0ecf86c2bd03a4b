package shadow

import (
	"maps"
	"math"
	"slices"
	"testing"
)

// Places, far ones and ones below 0 among them, in no order.
var places = []int{3, 0, -1, 1, 2, 1 << 40, math.MaxInt, math.MinInt, -7, 999, math.MaxInt - 1, math.MinInt + 1, 1 << 32, -1 << 32, 256, -256}

// byWords is a shadow by the document's words: at each place a thing that stays, and one that is loose over it.
type byWords struct {
	stays, loose map[int]int
}

func newByWords() *byWords { return &byWords{stays: map[int]int{}, loose: map[int]int{}} }

// rising is the places of things, from the least on, each found by itself.
func rising(things map[int]int) []int {
	var l []int
	for len(l) < len(things) {
		least, found := 0, false
		for at := range things {
			if !slices.Contains(l, at) && (!found || at < least) {
				least, found = at, true
			}
		}
		l = append(l, least)
	}
	return l
}

// checkTold sees that an iterator tells just these things, by rising places, each time that it is gone through.
func checkTold(t *testing.T, name string, all func(yield func(int, int) bool), want map[int]int) {
	t.Helper()
	order := rising(want)
	for range 2 {
		i := 0
		for at, x := range all {
			if i >= len(order) || at != order[i] || x != want[at] {
				t.Errorf("%s: thing %d is %d at %d, of %v", name, i, x, at, want)
			}
			i++
		}
		if i != len(order) {
			t.Errorf("%s: %d things, want %v", name, i, want)
		}
	}
}

// checkAs sees that a shadow has just what it has by the document's words, by all calls that change nothing.
func (w *byWords) checkAs(t *testing.T, s *Shadow[int]) {
	t.Helper()
	checkTold(t, "Fresh", s.Fresh(), w.loose)
	checkTold(t, "Kept", s.Kept(), w.stays)
	if s.Loose() != len(w.loose) {
		t.Errorf("Loose %d, want %d", s.Loose(), len(w.loose))
	}
	seen := maps.Clone(w.stays)
	maps.Copy(seen, w.loose)
	for _, at := range append(rising(seen), places...) {
		want, has := seen[at]
		if x, ok := s.Get(at); x != want || ok != has {
			t.Errorf("Get(%d) = %d, %v, want %d, %v", at, x, ok, want, has)
		}
	}
}

// The steps, on a shadow and by the document's words.
func (w *byWords) put(s *Shadow[int], at, x int) {
	s.Put(at, x)
	w.loose[at] = x
}

func (w *byWords) keep(s *Shadow[int]) {
	s.Keep()
	maps.Copy(w.stays, w.loose)
	clear(w.loose)
}

func (w *byWords) back(s *Shadow[int]) {
	s.Back()
	clear(w.loose)
}

func (w *byWords) clear(s *Shadow[int]) {
	s.Clear()
	clear(w.stays)
}

// 13.1: a new one has no things.
func TestNew(t *testing.T) {
	newByWords().checkAs(t, New[int]())
}

// The example of the chapter.
func TestExample(t *testing.T) {
	s := New[int]()
	s.Put(3, 5)
	s.Keep()
	s.Put(3, 6)
	if x, ok := s.Get(3); x != 6 || !ok {
		t.Errorf("Get(3) = %d, %v, want 6", x, ok)
	}
	s.Back()
	if x, ok := s.Get(3); x != 5 || !ok {
		t.Errorf("Get(3) = %d, %v, want 5", x, ok)
	}
}

// 13.1: what is put is loose, at any place, and in the place of a loose one there alone.
func TestPut(t *testing.T) {
	s, w := New[int](), newByWords()
	for i, at := range places {
		w.put(s, at, i+1)
		w.checkAs(t, s)
	}
	for i, at := range places {
		w.put(s, at, -i)
		w.checkAs(t, s)
	}
}

// 13.1: a loose one is seen over one that stays, which goes on staying; Loose is of places, not of how often was put.
func TestPutOver(t *testing.T) {
	for _, at := range places {
		s, w := New[int](), newByWords()
		w.put(s, at, 5)
		w.keep(s)
		w.put(s, at, 6)
		w.put(s, at, 7)
		w.checkAs(t, s)
		if x, ok := s.Get(at); x != 7 || !ok || s.Loose() != 1 {
			t.Errorf("Get(%d) = %d, %v, %d loose", at, x, ok, s.Loose())
		}
	}
}

// 13.1: a zero that was put is there, loose or staying, also over one that is none.
func TestZeroThing(t *testing.T) {
	s, w := New[int](), newByWords()
	w.put(s, 0, 0)
	w.checkAs(t, s)
	w.keep(s)
	w.checkAs(t, s)
	w.put(s, 0, 9)
	w.keep(s)
	w.put(s, 0, 0)
	w.checkAs(t, s)
	if x, ok := s.Get(0); x != 0 || !ok {
		t.Errorf("Get(0) = %d, %v", x, ok)
	}
}

// 13.2: all loose ones stay, in the place of those that stayed there alone, and none is loose any more; again: nothing.
func TestKeep(t *testing.T) {
	s, w := New[int](), newByWords()
	w.keep(s)
	w.checkAs(t, s)
	for round := range 4 {
		for i, at := range places {
			if (i+round)%3 != 0 {
				w.put(s, at, 100*round+i)
			}
		}
		w.checkAs(t, s)
		for range 2 {
			w.keep(s)
			w.checkAs(t, s)
		}
	}
}

// 13.2: no loose ones are there any more, such as stay are as they were, and are seen again.
func TestBack(t *testing.T) {
	s, w := New[int](), newByWords()
	w.back(s)
	w.checkAs(t, s)
	for i, at := range places[:6] {
		w.put(s, at, i)
	}
	w.keep(s)
	for i, at := range places[3:9] {
		w.put(s, at, 50+i)
	}
	for range 2 {
		w.back(s)
		w.checkAs(t, s)
	}
	w.put(s, 4, 4)
	w.keep(s)
	w.checkAs(t, s)
}

// 13.2: none that stay are there any more, loose ones are as they were; they may stay behind it.
func TestClear(t *testing.T) {
	s, w := New[int](), newByWords()
	w.clear(s)
	w.checkAs(t, s)
	for i, at := range places[:6] {
		w.put(s, at, i)
	}
	w.keep(s)
	for i, at := range places[3:9] {
		w.put(s, at, 50+i)
	}
	for range 2 {
		w.clear(s)
		w.checkAs(t, s)
	}
	w.keep(s)
	w.checkAs(t, s)
	w.clear(s)
	w.back(s)
	w.checkAs(t, s)
}

// filled is a shadow with things that stay, and loose ones over some of them, and beside them.
func filled() (*Shadow[int], *byWords) {
	s, w := New[int](), newByWords()
	for i, at := range places[:8] {
		w.put(s, at, i+1)
	}
	w.keep(s)
	for i, at := range places[4:12] {
		w.put(s, at, i+101)
	}
	return s, w
}

// 13.2: Fresh and Kept tell things as long as yield answers true, and yield is asked no more behind that.
func TestStops(t *testing.T) {
	for stop := range 10 {
		s, w := filled()
		for _, c := range []struct {
			all  func(yield func(int, int) bool)
			want map[int]int
		}{{s.Fresh(), w.loose}, {s.Kept(), w.stays}} {
			var got []int
			c.all(func(at, x int) bool {
				if x != c.want[at] {
					t.Errorf("%d at %d, want %d", x, at, c.want[at])
				}
				got = append(got, at)
				return len(got) <= stop
			})
			if want := rising(c.want)[:min(stop+1, 8)]; !slices.Equal(got, want) {
				t.Errorf("stopped behind %d: places %v, want %v", stop, got, want)
			}
		}
		w.checkAs(t, s)
	}
}

// 13.2: an iterator tells what there is when it is gone through.
func TestToldLater(t *testing.T) {
	s, w := New[int](), newByWords()
	fresh, kept := s.Fresh(), s.Kept()
	checkTold(t, "Fresh of none", fresh, nil)
	checkTold(t, "Kept of none", kept, nil)
	w.put(s, 4, 40)
	w.put(s, -4, 41)
	checkTold(t, "Fresh", fresh, w.loose)
	checkTold(t, "Kept", kept, nil)
	w.keep(s)
	w.put(s, 5, 50)
	checkTold(t, "Fresh behind Keep", fresh, w.loose)
	checkTold(t, "Kept behind Keep", kept, w.stays)
	w.back(s)
	w.clear(s)
	checkTold(t, "Fresh behind Back", fresh, nil)
	checkTold(t, "Kept behind Clear", kept, nil)
}

// P1, 13.2: Fresh and Kept end, and tell each thing that there was once, as it was, though the shadow is changed meanwhile.
func TestToldWhileChanged(t *testing.T) {
	changes := []func(w *byWords, s *Shadow[int], at, x int){
		func(w *byWords, s *Shadow[int], at, x int) { w.put(s, at+1, x+1000) },
		func(w *byWords, s *Shadow[int], at, x int) { w.put(s, at, x+1000) },
		func(w *byWords, s *Shadow[int], at, x int) {
			for _, at := range places {
				w.put(s, at, -5)
			}
			w.keep(s)
		},
		func(w *byWords, s *Shadow[int], _, _ int) { w.keep(s) },
		func(w *byWords, s *Shadow[int], _, _ int) { w.back(s) },
		func(w *byWords, s *Shadow[int], _, _ int) { w.clear(s) },
		func(w *byWords, s *Shadow[int], _, _ int) { w.back(s); w.clear(s) },
	}
	for i, change := range changes {
		for k := range 2 {
			s, w := filled()
			all, want := s.Fresh(), maps.Clone(w.loose)
			if k == 1 {
				all, want = s.Kept(), maps.Clone(w.stays)
			}
			var got []int
			for at, x := range all {
				if x != want[at] {
					t.Errorf("change %d: %d at %d, want %d", i, x, at, want[at])
				}
				got = append(got, at)
				change(w, s, at, x)
			}
			if !slices.Equal(got, rising(want)) {
				t.Errorf("change %d: places %v, want %v", i, got, rising(want))
			}
			w.checkAs(t, s)
		}
	}
}

// P1, 13.2: one iterator within the other tells all.
func TestToldWithin(t *testing.T) {
	s, w := filled()
	n := 0
	for range s.Fresh() {
		checkTold(t, "Kept", s.Kept(), w.stays)
		for range s.Fresh() {
			n++
		}
	}
	if n != 64 {
		t.Errorf("%d things, want 8 times 8", n)
	}
}

// P1: no yield at all is nobody to tell.
func TestNoYield(t *testing.T) {
	s, w := filled()
	s.Fresh()(nil)
	s.Kept()(nil)
	w.checkAs(t, s)
	var none *Shadow[int]
	none.Fresh()(nil)
	none.Kept()(nil)
}

// 13.1: of nil: nothing, zero, false, 0.
func TestNil(t *testing.T) {
	var s *Shadow[string]
	for _, step := range []func(){func() {}, s.Keep, s.Back, s.Clear, func() { s.Put(1, "x") }, s.Keep} {
		step()
		for _, at := range places {
			if x, ok := s.Get(at); x != "" || ok {
				t.Errorf("Get(%d) = %q, %v", at, x, ok)
			}
		}
		if s.Loose() != 0 {
			t.Errorf("Loose %d", s.Loose())
		}
		for at, x := range s.Fresh() {
			t.Errorf("Fresh: %q at %d", x, at)
		}
		for at, x := range s.Kept() {
			t.Errorf("Kept: %q at %d", x, at)
		}
	}
}

// P1: a shadow that New did not make has no things, and is one all the same.
func TestNotMade(t *testing.T) {
	for first := range 5 {
		var s Shadow[int]
		w := newByWords()
		w.checkAs(t, &s)
		switch first {
		case 0:
			w.keep(&s)
		case 1:
			w.back(&s)
		case 2:
			w.clear(&s)
		case 3:
			w.put(&s, -1, 3)
		}
		w.checkAs(t, &s)
		w.put(&s, 1, 2)
		w.keep(&s)
		w.put(&s, 2, 2)
		w.checkAs(t, &s)
	}
}

// 13.1: shadows are each for itself.
func TestTwoShadows(t *testing.T) {
	a, wa := filled()
	b, wb := New[int](), newByWords()
	wb.put(b, 3, 77)
	wb.keep(b)
	wb.put(b, 4, 78)
	wa.checkAs(t, a)
	wa.back(a)
	wa.clear(a)
	wa.checkAs(t, a)
	wb.checkAs(t, b)
}

// 13.1, 13.2: things are of any type, also of one whose things can't be compared, or have no bytes.
func TestAnyType(t *testing.T) {
	f := New[func() int]()
	f.Put(2, func() int { return 4 })
	f.Put(1, nil)
	f.Keep()
	if x, ok := f.Get(2); !ok || x() != 4 {
		t.Errorf("a function: %v", ok)
	}
	if x, ok := f.Get(1); !ok || x != nil {
		t.Errorf("a nil: %v", ok)
	}
	if x, ok := f.Get(3); ok || x != nil {
		t.Errorf("none: %v", ok)
	}
	l := New[[]string]()
	l.Put(0, []string{"a", "b"})
	if x, ok := l.Get(0); !ok || !slices.Equal(x, []string{"a", "b"}) {
		t.Errorf("a list: %v, %v", x, ok)
	}
	e := New[struct{}]()
	e.Put(1, struct{}{})
	e.Put(2, struct{}{})
	if _, ok := e.Get(2); !ok || e.Loose() != 2 {
		t.Errorf("things without bytes: %d", e.Loose())
	}
	g := New[*Shadow[int]]()
	inner := New[int]()
	g.Put(1, inner)
	if x, ok := g.Get(1); x != inner || !ok {
		t.Errorf("a shadow of shadows: %v", ok)
	}
	a := New[any]()
	a.Put(1, []int{1})
	a.Put(1, "x")
	if x, ok := a.Get(1); x != "x" || !ok {
		t.Errorf("a thing of any type: %v, %v", x, ok)
	}
}

// What is there no more is held no more.
func TestLetGo(t *testing.T) {
	s := New[int]()
	for i := range 1000 {
		s.Put(i, i)
	}
	s.Keep()
	if len(s.loose) != 0 {
		t.Errorf("%d things that stay are loose", len(s.loose))
	}
	s.Put(1, 1)
	s.Back()
	s.Clear()
	if len(s.loose)+len(s.stays) != 0 {
		t.Errorf("%d loose and %d staying ones are held", len(s.loose), len(s.stays))
	}
}

// 13.3: what was put and taken back has not been: each step behind it comes to the same as on a shadow without it.
func TestTakenBack(t *testing.T) {
	for n := range 200 {
		a, b, w := New[int](), New[int](), newByWords()
		x := uint32(n)*2654435761 + 1
		for range 12 {
			for range 3 {
				x = x*1664525 + 1013904223
				w.put(a, int(x>>24)%8, int(x>>8))
			}
			w.back(a)
			w.checkAs(t, a)
			w.checkAs(t, b)
			x = x*1664525 + 1013904223
			at := int(x>>20)%8 - 2
			w.put(a, at, int(x>>4))
			b.Put(at, int(x>>4))
			w.keep(a)
			b.Keep()
			if x>>30 == 0 {
				w.clear(a)
				b.Clear()
			}
		}
		w.checkAs(t, a)
		w.checkAs(t, b)
	}
}

// P1, and all promises, by any steps.
func FuzzShadows(f *testing.F) {
	f.Add("\x00\x03\x05\x01\x00\x03\x06\x02")
	f.Add("\x00\x03\x05\x00\x83\x05\x03\x00\x00\x00\x01\x03\x00\xff\x02\x02")
	f.Add("\x01\x02\x03\x00\x7f\x00\x00\x80\x00\x01\x00\x7f\x01\x03")
	f.Fuzz(func(t *testing.T, steps string) {
		s, w := New[int](), newByWords()
		for i := 0; i < min(len(steps), 300); i++ {
			switch steps[i] % 4 {
			case 0:
				if i+2 < len(steps) {
					// The top bit says that the place is a far one.
					at := int(int8(steps[i+1])) << (steps[i+1] >> 7 * 56)
					w.put(s, at, int(steps[i+2]))
					i += 2
				}
			case 1:
				w.keep(s)
			case 2:
				w.back(s)
			case 3:
				w.clear(s)
			}
			w.checkAs(t, s)
		}
	})
}
