package vector

import (
	"math"
	"strconv"
	"strings"
	"testing"

	"solder/api"
)

// The names, and that they are numbers of any kind, as the chapter has them: no type of their own.
const (
	_ uint8   = Beside
	_ float64 = Ahead
)

// Numbers that no side has, near the edges and far from them.
var noValues = []int{-1, -2, -1 << 50, math.MinInt, math.MinInt + 1, 1<<50 + 1, 1<<50 + 2, 1 << 51, 1 << 56, math.MaxInt}

// Numbers that are no node.
var noNodes = []int{-1, -2, 2, 3, 256, 1 << 32, 1<<32 + 1, math.MinInt, math.MaxInt}

// Numbers of beginnings that are none.
var noBoots = []int{-1, -2, 1<<24 + 1, 1<<24 + 2, 1 << 32, 1 << 40, 1<<40 + 1, math.MinInt, math.MaxInt}

// Numbers that a side may have, with those at which a beginning's numbers start.
var values = []int{0, 1, 2, 3, 255, 256, 1<<24 - 1, 1 << 24, 1<<24 + 1, 3 << 24, 1 << 48, 1<<48 + 1, 1<<50 - 1, 1 << 50}

// Vectors of all pairs of numbers, those that no side has among them.
func vectorsOf(numbers []int) []api.Vector {
	var l []api.Vector
	for _, a := range numbers {
		for _, b := range numbers {
			l = append(l, api.Vector{A: a, B: b})
		}
	}
	return l
}

// Vectors of few numbers, for laws of three vectors.
func fewVectors() []api.Vector {
	return vectorsOf([]int{0, 1, 2, 1 << 50, -1, math.MinInt, math.MaxInt})
}

// Vectors of all numbers.
func allVectors() []api.Vector {
	return vectorsOf(append(append([]int{}, values...), noValues...))
}

// 5.1: how vectors stand has the numbers that the chapter tells.
func TestNames(t *testing.T) {
	if Same != 0 || Ahead != 1 || Behind != 2 || Beside != 3 {
		t.Errorf("Same %d, Ahead %d, Behind %d, Beside %d", Same, Ahead, Behind, Beside)
	}
}

// 5.1: a vector may be, if both numbers are 0 to MaxValue.
func TestRight(t *testing.T) {
	for _, v := range vectorsOf(values) {
		if !Right(v) {
			t.Errorf("Right(%v) = false", v)
		}
	}
}

// 5.1: one number that no side has is enough for a vector that may not be.
func TestNotRight(t *testing.T) {
	for _, no := range noValues {
		for _, n := range append(append([]int{}, values...), noValues...) {
			if v := (api.Vector{A: no, B: n}); Right(v) {
				t.Errorf("Right(%v) = true", v)
			}
			if v := (api.Vector{A: n, B: no}); Right(v) {
				t.Errorf("Right(%v) = true", v)
			}
		}
	}
}

// Vectors, and how they stand.
var pairs = []struct {
	a, b api.Vector
	how  int
	join api.Vector
}{
	{api.Vector{}, api.Vector{}, Same, api.Vector{}},
	{api.Vector{A: 3, B: 1}, api.Vector{A: 2, B: 2}, Beside, api.Vector{A: 3, B: 2}},
	{api.Vector{A: 2, B: 5}, api.Vector{A: 2, B: 5}, Same, api.Vector{A: 2, B: 5}},
	{api.Vector{A: 2, B: 5}, api.Vector{A: 1, B: 5}, Ahead, api.Vector{A: 2, B: 5}},
	{api.Vector{A: 2, B: 5}, api.Vector{A: 2, B: 4}, Ahead, api.Vector{A: 2, B: 5}},
	{api.Vector{A: 2, B: 5}, api.Vector{A: 1, B: 4}, Ahead, api.Vector{A: 2, B: 5}},
	{api.Vector{A: 2, B: 5}, api.Vector{A: 2, B: 6}, Behind, api.Vector{A: 2, B: 6}},
	{api.Vector{A: 2, B: 5}, api.Vector{A: 3, B: 5}, Behind, api.Vector{A: 3, B: 5}},
	{api.Vector{A: 2, B: 5}, api.Vector{A: 9, B: 9}, Behind, api.Vector{A: 9, B: 9}},
	{api.Vector{A: 2, B: 5}, api.Vector{A: 3, B: 4}, Beside, api.Vector{A: 3, B: 5}},
	{api.Vector{A: 2, B: 5}, api.Vector{A: 5, B: 2}, Beside, api.Vector{A: 5, B: 5}},
	{api.Vector{A: 1 << 50}, api.Vector{B: 1 << 50}, Beside, api.Vector{A: 1 << 50, B: 1 << 50}},
	{api.Vector{A: 1 << 50, B: 1 << 50}, api.Vector{A: 1 << 50, B: 1<<50 - 1}, Ahead, api.Vector{A: 1 << 50, B: 1 << 50}},
	{api.Vector{A: -1}, api.Vector{}, Behind, api.Vector{}},
	{api.Vector{A: math.MinInt, B: math.MaxInt}, api.Vector{A: math.MaxInt, B: math.MinInt}, Beside, api.Vector{A: math.MaxInt, B: math.MaxInt}},
	{api.Vector{A: math.MaxInt, B: math.MaxInt}, api.Vector{A: math.MinInt, B: math.MinInt}, Ahead, api.Vector{A: math.MaxInt, B: math.MaxInt}},
}

// turnedRound is how b stands to a, where a stands to b as told.
func turnedRound(how int) int {
	switch how {
	case 1:
		return 2
	case 2:
		return 1
	}
	return how
}

// 5.1: how vectors stand, and their join, each the other way round too.
func TestPairs(t *testing.T) {
	for _, p := range pairs {
		for _, c := range []struct {
			a, b api.Vector
			how  int
		}{{p.a, p.b, p.how}, {p.b, p.a, turnedRound(p.how)}} {
			if got := Compare(c.a, c.b); got != c.how {
				t.Errorf("Compare(%v, %v) = %d, want %d", c.a, c.b, got, c.how)
			}
			if got := Covers(c.a, c.b); got != (c.how == 0 || c.how == 1) {
				t.Errorf("Covers(%v, %v) = %v", c.a, c.b, got)
			}
			if got := Join(c.a, c.b); got != p.join {
				t.Errorf("Join(%v, %v) = %v, want %v", c.a, c.b, got, p.join)
			}
		}
	}
}

// checkByWords holds Covers, Compare and Join against the document's words.
func checkByWords(t *testing.T, a, b api.Vector) {
	t.Helper()
	covers := !(a.A < b.A) && !(a.B < b.B)
	covered := !(b.A < a.A) && !(b.B < a.B)
	how := 3
	switch {
	case covers && covered:
		how = 0
	case covers:
		how = 1
	case covered:
		how = 2
	}
	join := a
	if b.A > a.A {
		join.A = b.A
	}
	if b.B > a.B {
		join.B = b.B
	}
	if got := Covers(a, b); got != covers {
		t.Errorf("Covers(%v, %v) = %v", a, b, got)
	}
	if got := Compare(a, b); got != how {
		t.Errorf("Compare(%v, %v) = %d, want %d", a, b, got, how)
	}
	if got := Join(a, b); got != join {
		t.Errorf("Join(%v, %v) = %v, want %v", a, b, got, join)
	}
}

// 5.1: at all numbers, also those that no side has.
func TestAllPairs(t *testing.T) {
	for _, a := range allVectors() {
		for _, b := range allVectors() {
			checkByWords(t, a, b)
		}
	}
}

// 5.2: the number of a side, and 0 of what is no node.
func TestAt(t *testing.T) {
	for _, v := range append(allVectors(), api.Vector{A: 7, B: 9}) {
		if got := At(v, 0); got != v.A {
			t.Errorf("At(%v, NodeA) = %d", v, got)
		}
		if got := At(v, 1); got != v.B {
			t.Errorf("At(%v, NodeB) = %d", v, got)
		}
		for _, node := range noNodes {
			if got := At(v, node); got != 0 {
				t.Errorf("At(%v, %d) = %d", v, node, got)
			}
		}
	}
}

// checkBump holds Bump against what is to come.
func checkBump(t *testing.T, v api.Vector, node, boot int, want api.Vector, e api.Errno) {
	t.Helper()
	if got, gotE := Bump(v, node, boot); got != want || gotE != e {
		t.Errorf("Bump(%v, %d, %d) = %v, %d, want %v, %d", v, node, boot, got, gotE, want, e)
	}
}

// Numbers of a side, the beginning, and the number that comes of them.
var bumps = []struct{ n, boot, want int }{
	{0, 0, 1},
	{1, 0, 2},
	{41, 0, 42},
	{1 << 24, 0, 1<<24 + 1},
	{0, 1, 1<<24 + 1},
	{2, 3, 3<<24 + 1},
	{1<<24 - 2, 1, 1<<24 + 1},
	{1<<24 - 1, 1, 1<<24 + 1},
	{1 << 24, 1, 1<<24 + 1},
	{1<<24 + 1, 1, 1<<24 + 2},
	{1<<24 + 2, 1, 1<<24 + 3},
	{2<<24 + 5, 1, 2<<24 + 6},
	{0, 1 << 24, 1<<48 + 1},
	{1<<48 - 1, 1 << 24, 1<<48 + 1},
	{1 << 48, 1 << 24, 1<<48 + 1},
	{1<<48 + 1, 1 << 24, 1<<48 + 2},
	{0, 1<<24 - 1, 1<<48 - 1<<24 + 1},
	{1<<50 - 2, 0, 1<<50 - 1},
	{1<<50 - 1, 0, 1 << 50},
	{1<<50 - 1, 1 << 24, 1 << 50},
}

// 5.2: the node's number is one more, or the first one of the beginning; the other one stays.
func TestBump(t *testing.T) {
	for _, c := range bumps {
		for _, other := range values {
			checkBump(t, api.Vector{A: c.n, B: other}, 0, c.boot, api.Vector{A: c.want, B: other}, api.OK)
			checkBump(t, api.Vector{A: other, B: c.n}, 1, c.boot, api.Vector{A: other, B: c.want}, api.OK)
		}
	}
}

// 5.2: one above MaxValue is too great, whatever the other side has.
func TestBumpLimit(t *testing.T) {
	for _, boot := range []int{0, 1, 1<<24 - 1, 1 << 24} {
		for _, other := range values {
			checkBump(t, api.Vector{A: 1 << 50, B: other}, 0, boot, api.Vector{}, api.ErrLimit)
			checkBump(t, api.Vector{A: other, B: 1 << 50}, 1, boot, api.Vector{}, api.ErrLimit)
		}
	}
}

// 5.2: what is no node is out of range, also where numbers are used up.
func TestBumpNode(t *testing.T) {
	for _, node := range noNodes {
		for _, v := range vectorsOf(values) {
			checkBump(t, v, node, 0, api.Vector{}, api.ErrRange)
			checkBump(t, v, node, 1<<24, api.Vector{}, api.ErrRange)
		}
	}
}

// 5.2: a vector that may not be is out of range, whichever side's number is wrong, also where the other one is used up.
func TestBumpVector(t *testing.T) {
	for _, no := range noValues {
		for _, n := range values {
			for node := range 2 {
				for _, boot := range []int{0, 1, 1 << 24} {
					checkBump(t, api.Vector{A: no, B: n}, node, boot, api.Vector{}, api.ErrRange)
					checkBump(t, api.Vector{A: n, B: no}, node, boot, api.Vector{}, api.ErrRange)
				}
			}
		}
	}
}

// 5.2: a beginning that is none is out of range, also where numbers are used up.
func TestBumpBoot(t *testing.T) {
	for _, boot := range noBoots {
		for _, v := range vectorsOf(values) {
			for node := range 2 {
				checkBump(t, v, node, boot, api.Vector{}, api.ErrRange)
			}
		}
	}
}

// 5.2: one behind the other they go up by one, from the first number of a beginning on, on each side for itself.
func TestBumpInARow(t *testing.T) {
	v := api.Vector{A: 2, B: 5}
	for boot := range 4 {
		for i := range 300 {
			wantA, wantB := boot<<24+1+i, boot<<24+1+i
			if boot == 0 {
				wantA, wantB = 3+i, 6+i
			}
			a, _ := Bump(v, 0, boot)
			both, e := Bump(a, 1, boot)
			if want := (api.Vector{A: wantA, B: wantB}); both != want || e != api.OK {
				t.Fatalf("Bump of %v, boot %d: %v, error %d, want %v", v, boot, both, e, want)
			}
			v = both
		}
	}
}

// sevenBytes is a number as 7 bytes, the highest ahead; nothing of one that has not so many.
func sevenBytes(n int) string {
	if n < 0 || n >= 1<<56 {
		return ""
	}
	var l []byte
	for power := 1 << 48; power > 0; power /= 256 {
		l = append(l, byte(n/power%256))
	}
	return string(l)
}

// Texts that may stand ahead of a vector.
var heads = []string{"", "x", "\x00", "\xff\xfe", "\u00e9 \xe2\x88", strings.Repeat("ab", 500)}

// 5.3: bytes of vectors that are known.
func TestPutKnown(t *testing.T) {
	for v, want := range map[api.Vector]string{
		{}:                                  "\x00\x00\x00\x00\x00\x00\x00\x00\x00\x00\x00\x00\x00\x00",
		{A: 2, B: 5}:                        "\x00\x00\x00\x00\x00\x00\x02\x00\x00\x00\x00\x00\x00\x05",
		{A: 258, B: 1 << 24}:                "\x00\x00\x00\x00\x00\x01\x02\x00\x00\x00\x01\x00\x00\x00",
		{A: 1 << 50, B: 1<<50 - 1}:          "\x04\x00\x00\x00\x00\x00\x00\x03\xff\xff\xff\xff\xff\xff",
		{A: 0x01020304050607, B: 1<<56 - 1}: "\x01\x02\x03\x04\x05\x06\x07\xff\xff\xff\xff\xff\xff\xff",
		{A: 1 << 56, B: 1}:                  "\x00\x00\x00\x00\x00\x00\x01",
		{A: 1, B: -1}:                       "\x00\x00\x00\x00\x00\x00\x01",
		{A: -1, B: 1 << 56}:                 "",
	} {
		for _, head := range heads {
			if got := Put(head, v); got != head+want {
				t.Errorf("Put(%.20q, %v) = %q, want %q behind", head, v, got, want)
			}
		}
	}
}

// 5.3: A and B, in 7 bytes each, behind what is there; a number that has not so many bytes is left out, as field does.
func TestPut(t *testing.T) {
	for _, v := range allVectors() {
		for _, head := range heads {
			if got, want := Put(head, v), head+sevenBytes(v.A)+sevenBytes(v.B); got != want {
				t.Errorf("Put(%.20q, %v) = %q, want %q", head, v, got, want)
			}
		}
	}
}

// 5.3: A, a point, B.
func TestText(t *testing.T) {
	for v, want := range map[api.Vector]string{
		{}:                                 "0.0",
		{A: 2, B: 5}:                       "2.5",
		{A: 3, B: 1}:                       "3.1",
		{A: 10, B: 20}:                     "10.20",
		{A: 1 << 50}:                       "1125899906842624.0",
		{B: 1 << 50}:                       "0.1125899906842624",
		{A: -1, B: 7}:                      "-1.7",
		{A: 7, B: -1}:                      "7.-1",
		{A: math.MaxInt, B: math.MinInt}:   "9223372036854775807.-9223372036854775808",
		{A: math.MinInt, B: math.MaxInt}:   "-9223372036854775808.9223372036854775807",
		{A: math.MinInt + 1, B: 1<<50 + 1}: "-9223372036854775807.1125899906842625",
	} {
		if got := Text(v); got != want {
			t.Errorf("Text(%v) = %q, want %q", v, got, want)
		}
	}
	for _, v := range allVectors() {
		if got, want := Text(v), strconv.Itoa(v.A)+"."+strconv.Itoa(v.B); got != want {
			t.Errorf("Text(%v) = %q, want %q", v, got, want)
		}
	}
}

// checkOrder sees of three vectors that Covers is an order.
func checkOrder(t *testing.T, a, b, c api.Vector) {
	t.Helper()
	if !Covers(a, a) {
		t.Errorf("%v does not cover itself", a)
	}
	if Covers(a, b) && Covers(b, a) && a != b {
		t.Errorf("%v and %v cover each other", a, b)
	}
	if Covers(a, b) && Covers(b, c) && !Covers(a, c) {
		t.Errorf("%v covers %v, that covers %v, that %v does not cover", a, b, c, a)
	}
}

// checkJoin sees of three vectors that Join is the least one that covers both, in any order, and however often.
func checkJoin(t *testing.T, a, b, c api.Vector) {
	t.Helper()
	join := Join(a, b)
	if !Covers(join, a) || !Covers(join, b) {
		t.Errorf("Join(%v, %v) = %v does not cover both", a, b, join)
	}
	if Covers(c, a) && Covers(c, b) && !Covers(c, join) {
		t.Errorf("Join(%v, %v) = %v, where %v covers both", a, b, join, c)
	}
	if got := Join(b, a); got != join {
		t.Errorf("Join(%v, %v) = %v, the other way round %v", a, b, join, got)
	}
	if left, right := Join(join, c), Join(a, Join(b, c)); left != right {
		t.Errorf("joins of %v, %v, %v: %v, %v", a, b, c, left, right)
	}
	if Join(a, a) != a || Join(join, a) != join || Join(join, join) != join {
		t.Errorf("Join of %v and %v: again is another one", a, b)
	}
}

// 5.4: Covers is an order, and Join the least vector that covers both.
func TestLaws(t *testing.T) {
	for _, a := range fewVectors() {
		for _, b := range fewVectors() {
			for _, c := range fewVectors() {
				checkOrder(t, a, b, c)
				checkJoin(t, a, b, c)
			}
		}
	}
}

// checkAhead sees that a vector that was bumped is ahead of what it was, has its other side's number still, and may be.
func checkAhead(t *testing.T, v api.Vector, node, boot int) {
	t.Helper()
	got, e := Bump(v, node, boot)
	if e != api.OK {
		if got != (api.Vector{}) {
			t.Errorf("Bump(%v, %d, %d) = %v beside error %d", v, node, boot, got, e)
		}
		return
	}
	if Compare(got, v) != Ahead || Compare(v, got) != Behind || !Right(got) {
		t.Errorf("Bump(%v, %d, %d) = %v", v, node, boot, got)
	}
	if At(got, node) <= boot<<24 || At(got, 1-node) != At(v, 1-node) {
		t.Errorf("Bump(%v, %d, %d) = %v", v, node, boot, got)
	}
}

// 5.4: what was bumped is ahead.
func TestBumpedAhead(t *testing.T) {
	for _, v := range vectorsOf(values) {
		for node := range 2 {
			for _, boot := range []int{0, 1, 2, 3, 255, 1<<24 - 1, 1 << 24} {
				checkAhead(t, v, node, boot)
			}
		}
	}
}

// 5.4: bumped on both sides apart, vectors are beside one another, and the join is ahead of both.
func TestBumpedApart(t *testing.T) {
	for _, v := range vectorsOf(values) {
		a, ea := Bump(v, 0, 7)
		b, eb := Bump(v, 1, 9)
		if ea != api.OK || eb != api.OK {
			continue
		}
		join := Join(a, b)
		if Compare(a, b) != Beside || Compare(join, a) != Ahead || Compare(join, b) != Ahead {
			t.Errorf("of %v: %v, %v, join %v", v, a, b, join)
		}
	}
}

// bumpByWords is what Bump comes to by the document's words.
func bumpByWords(v api.Vector, node, boot int) (api.Vector, api.Errno) {
	if node != 0 && node != 1 || v.A < 0 || v.A > 1<<50 || v.B < 0 || v.B > 1<<50 || boot < 0 || boot > 1<<24 {
		return api.Vector{}, api.ErrRange
	}
	number := []*int{&v.A, &v.B}[node]
	*number++
	if first := boot*(1<<24) + 1; first > *number {
		*number = first
	}
	if *number > 1<<50 {
		return api.Vector{}, api.ErrLimit
	}
	return v, api.OK
}

// P1, and all promises, at any numbers.
func FuzzVectors(f *testing.F) {
	f.Add(0, 0, 0, 0, 0, 0, "")
	f.Add(3, 1, 2, 2, 1, 0, "x")
	f.Add(1<<50, 1<<50, 1<<50, 0, 0, 1<<24, "\xff")
	f.Add(1<<50+1, -1, 0, 1<<56, 2, 1<<24+1, "")
	f.Add(math.MinInt, math.MaxInt, math.MaxInt, math.MinInt, math.MinInt, math.MaxInt, "ab")
	f.Fuzz(func(t *testing.T, aA, aB, bA, bB, node, boot int, s string) {
		a, b := api.Vector{A: aA, B: aB}, api.Vector{A: bA, B: bB}
		c := api.Vector{A: aA, B: bB}
		checkByWords(t, a, b)
		checkOrder(t, a, b, c)
		checkJoin(t, a, b, c)
		for _, v := range []api.Vector{a, b, c} {
			right := v.A >= 0 && v.A <= 1<<50 && v.B >= 0 && v.B <= 1<<50
			if got := Right(v); got != right {
				t.Errorf("Right(%v) = %v", v, got)
			}
			want, e := bumpByWords(v, node, boot)
			checkBump(t, v, node, boot, want, e)
			checkAhead(t, v, node, boot)
			if got := Put(s, v); got != s+sevenBytes(v.A)+sevenBytes(v.B) {
				t.Errorf("Put(%q, %v) = %q", s, v, got)
			}
			if got := Text(v); got != strconv.Itoa(v.A)+"."+strconv.Itoa(v.B) {
				t.Errorf("Text(%v) = %q", v, got)
			}
		}
	})
}
