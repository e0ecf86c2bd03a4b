package count

import (
	"math"
	"math/big"
	"slices"
	"strings"
	"testing"

	"solder/api"
)

// Numbers and how they are written, at the edges and between them.
var written = []struct {
	n int
	s string
}{
	{0, "0"},
	{1, "1"},
	{9, "9"},
	{10, "10"},
	{-1, "-1"},
	{-9, "-9"},
	{-10, "-10"},
	{-12, "-12"},
	{120, "120"},
	{1000000, "1000000"},
	{-2050, "-2050"},
	{1 << 50, "1125899906842624"},
	{math.MaxInt64, "9223372036854775807"},
	{math.MaxInt64 - 1, "9223372036854775806"},
	{math.MinInt64, "-9223372036854775808"},
	{math.MinInt64 + 1, "-9223372036854775807"},
}

// 1.1: a number is written in digits.
func TestText(t *testing.T) {
	for _, c := range written {
		if got := Text(c.n); got != c.s {
			t.Errorf("Text(%d) = %q, want %q", c.n, got, c.s)
		}
	}
}

// 1.1: a text that is a number is read.
func TestRead(t *testing.T) {
	for _, c := range written {
		if n, e := Read(c.s); n != c.n || e != api.OK {
			t.Errorf("Read(%q) = %d, %d, want %d, OK", c.s, n, e, c.n)
		}
	}
}

// 1.1: a text of another form is none, also where its number would be too great.
func TestReadForm(t *testing.T) {
	for _, s := range []string{
		"", "-", "--", "--1", "-0", "00", "01", "007", "-00", "-01", "-007",
		"+", "+0", "+1", "-+1", "+-1", "1-", "1-1", "0-", "-1-",
		" ", " 1", "1 ", "- 1", "1 2", "1\n", "\t1",
		"a", "1a", "a1", "0x1", "0b1", "0o7", "1_000", "1e3", "1.0", ".", "1,0",
		"/", ":", "1/", "1:", "\x00", "1\x00", "\xff", "1\xff", "\xe2\x88\x921",
		"\u0663", "1\u0663", "\uff11",
		"9223372036854775808x", "-9223372036854775809-", "09223372036854775808", "-09223372036854775809",
		strings.Repeat("9", 1000) + " ", strings.Repeat("0", 1000), strings.Repeat("-", 1000),
	} {
		if n, e := Read(s); n != 0 || e != api.ErrForm {
			t.Errorf("Read(%q) = %d, %d, want 0, ErrForm", s, n, e)
		}
	}
}

// 1.1: a number that is too great, or too little, is out of range, by one or by far.
func TestReadRange(t *testing.T) {
	for _, s := range []string{
		"9223372036854775808", "9223372036854775810", "9300000000000000000", "10000000000000000000",
		"-9223372036854775809", "-9223372036854775810", "-9300000000000000000", "-10000000000000000000",
		"18446744073709551615", "18446744073709551616", "18446744073709551617", "-18446744073709551616",
		"1" + strings.Repeat("0", 1000), "-1" + strings.Repeat("0", 1000),
		strings.Repeat("9", 100000),
	} {
		if n, e := Read(s); n != 0 || e != api.ErrRange {
			t.Errorf("Read of %d bytes, %.30q: %d, %d, want 0, ErrRange", len(s), s, n, e)
		}
	}
}

// isWritten says by the document's words, not by the program's, whether a text has the form of a number.
func isWritten(s string) bool {
	digits := s
	if len(s) > 0 && s[0] == '-' {
		digits = s[1:]
	}
	if len(digits) == 0 || s == "-0" {
		return false
	}
	for i := range len(digits) {
		if !strings.Contains("0123456789", digits[i:i+1]) {
			return false
		}
	}
	return len(digits) == 1 || digits[0] != '0'
}

// 1.1: of all short texts over some characters just those of the form are read, and as their number.
func TestReadAllShort(t *testing.T) {
	const chars = "-+0123789 a/:_\xff"
	var walk func(s string)
	walk = func(s string) {
		n, e := Read(s)
		if !isWritten(s) {
			if n != 0 || e != api.ErrForm {
				t.Errorf("Read(%q) = %d, %d, want 0, ErrForm", s, n, e)
			}
		} else if want, _ := new(big.Int).SetString(s, 10); e != api.OK || int64(n) != want.Int64() {
			t.Errorf("Read(%q) = %d, %d, want %s, OK", s, n, e, want)
		}
		if len(s) == 4 {
			return
		}
		for i := range len(chars) {
			walk(s + chars[i:i+1])
		}
	}
	walk("")
}

// 1.2: of each byte two digits, the higher one ahead.
func TestHex(t *testing.T) {
	for s, want := range map[string]string{
		"":                 "",
		"\x00\xff":         "00ff",
		"\x12":             "12",
		"\xf0\x0f":         "f00f",
		"\xab\xcd\xef":     "abcdef",
		"\x09\x0a\x90\xa0": "090a90a0",
		"az09 ":            "617a303920",
		"\u00e9\u2212":     "c3a9e28892",
		"\xe2\x88":         "e288",
		"\ufffd":           "efbfbd",
		"\x80\x80":         "8080",
		"\U0001f600":       "f09f9880",
	} {
		if got := Hex(s); got != want {
			t.Errorf("Hex(%q) = %q, want %q", s, got, want)
		}
		if got, e := Unhex(want); got != s || e != api.OK {
			t.Errorf("Unhex(%q) = %q, %d, want %q, OK", want, got, e, s)
		}
	}
}

// 1.2: of all pairs of bytes those are a byte, that are two digits.
func TestUnhexAllPairs(t *testing.T) {
	const digits = "0123456789abcdef"
	for a := range 256 {
		for b := range 256 {
			s := string([]byte{byte(a), byte(b)})
			want, wantErr := "", api.ErrForm
			high, low := strings.IndexByte(digits, byte(a)), strings.IndexByte(digits, byte(b))
			if high >= 0 && low >= 0 {
				want, wantErr = string([]byte{byte(16*high + low)}), api.OK
			}
			if got, e := Unhex(s); got != want || e != wantErr {
				t.Errorf("Unhex(%q) = %q, %d, want %q, %d", s, got, e, want, wantErr)
			}
		}
	}
}

// 1.2: what is not such pairs is none, wherever the fault stands.
func TestUnhexForm(t *testing.T) {
	for _, s := range []string{
		"0", "f", "000", "00f", "abcde",
		"0A", "A0", "FF", "00FF", "aB", "0g", "g0", "0x", "0x00",
		" 00", "00 ", "0 0", " 0", "0 ", "00 00", "00\n", "\x0000", "-0", "+0",
		"0\xff", "\xff0", "\u00e9", "\u00e90", "0\u00e9", "00\u00e9", "\uff11\uff11", "\u0661",
		"00112233445566778899aabbccddeef", "00112233445566778899aabbccddeefF", "X0112233445566778899aabbccddeeff",
		strings.Repeat("ab", 1000) + "a", strings.Repeat("ab", 1000) + "aG",
	} {
		if got, e := Unhex(s); got != "" || e != api.ErrForm {
			t.Errorf("Unhex(%q) = %q, %d, want nothing, ErrForm", s, got, e)
		}
	}
}

// 1.3: words are what stands between blanks.
func TestWords(t *testing.T) {
	for _, c := range []struct {
		s    string
		want []string
	}{
		{"", nil},
		{" ", nil},
		{"     ", nil},
		{"a", []string{"a"}},
		{"  a  bc ", []string{"a", "bc"}},
		{" one  two ", []string{"one", "two"}},
		{"keep 3 b", []string{"keep", "3", "b"}},
		{"a a a", []string{"a", "a", "a"}},
		{"a b", []string{"a", "b"}},
		{" ab", []string{"ab"}},
		{"ab ", []string{"ab"}},
		{"abc", []string{"abc"}},
		{"a\tb\nc\r d\v\f", []string{"a\tb\nc\r", "d\v\f"}},
		{"\t \n", []string{"\t", "\n"}},
		{"a\x00b \x00", []string{"a\x00b", "\x00"}},
		{"a\u00a0b\u2003c\u3000d\u0085e", []string{"a\u00a0b\u2003c\u3000d\u0085e"}},
		{"\u00e9t\u00e9 \u65e5\u672c \U0001f600", []string{"\u00e9t\u00e9", "\u65e5\u672c", "\U0001f600"}},
		{"\xff \xe2\x88 \xf0\x9f\x98 b", []string{"\xff", "\xe2\x88", "\xf0\x9f\x98", "b"}},
		{"\xe2 \x88 \xa0", []string{"\xe2", "\x88", "\xa0"}},
		{"\ufffd \ufffd", []string{"\ufffd", "\ufffd"}},
	} {
		if got := Words(c.s); !slices.Equal(got, c.want) {
			t.Errorf("Words(%q) = %q, want %q", c.s, got, c.want)
		}
	}
}

// 1.3: each byte but the blank belongs to a word.
func TestWordsAllBytes(t *testing.T) {
	for b := range 256 {
		c := string([]byte{byte(b)})
		want := []string{"x" + c + "y", c, "z"}
		if c == " " {
			want = []string{"x", "y", "z"}
		}
		if got := Words("x" + c + "y " + c + " z"); !slices.Equal(got, want) {
			t.Errorf("byte %d: %q, want %q", b, got, want)
		}
	}
}

// 1.3: many words, in their order.
func TestWordsMany(t *testing.T) {
	var line strings.Builder
	for n := range 1000 {
		line.WriteString(strings.Repeat(" ", 1+n%3) + Text(n))
	}
	got := Words(line.String())
	if len(got) != 1000 {
		t.Fatalf("%d words, want 1000", len(got))
	}
	for n, word := range got {
		if word != Text(n) {
			t.Errorf("word %d is %q", n, word)
		}
	}
}

// 1.4: Read of Text is the number, also near each power of two.
func TestReadOfText(t *testing.T) {
	check := func(n int) {
		if got, e := Read(Text(n)); got != n || e != api.OK {
			t.Errorf("Read(Text(%d)) = %d, %d", n, got, e)
		}
	}
	for n := -1200; n <= 1200; n++ {
		check(n)
	}
	for i := range 64 {
		for near := -2; near <= 2; near++ {
			check(1<<i + near)
			check(-1<<i + near)
		}
	}
}

// 1.4: Unhex of Hex is the bytes, of all of them in a row, and of each two.
func TestUnhexOfHex(t *testing.T) {
	check := func(s string) {
		h := Hex(s)
		if got, e := Unhex(h); got != s || e != api.OK || len(h) != 2*len(s) {
			t.Errorf("Unhex(Hex(%q)) = %q, %d, by way of %q", s, got, e, h)
		}
	}
	all := make([]byte, 0, 256)
	for a := range 256 {
		all = append(all, byte(a))
		for b := range 256 {
			check(string([]byte{byte(a), byte(b)}))
		}
	}
	check("")
	check(string(all))
	check(strings.Repeat(string(all), 50))
}

// P1, and all promises, at any text.
func FuzzTexts(f *testing.F) {
	for _, s := range []string{"", "-", "-0", "12", "-9223372036854775809", "00ff", "0F", " a  bc ", "\xe2 \x88", "\u00e9 1"} {
		f.Add(s)
	}
	f.Fuzz(func(t *testing.T, s string) {
		if n, e := Read(s); (e == api.OK) != (Text(n) == s) || e != api.OK && n != 0 || (e == api.ErrForm) == isWritten(s) {
			t.Errorf("Read(%q) = %d, %d", s, n, e)
		}
		if got, e := Unhex(s); (e == api.OK) != (Hex(got) == s) || e != api.OK && (got != "" || e != api.ErrForm) {
			t.Errorf("Unhex(%q) = %q, %d", s, got, e)
		}
		if got, e := Unhex(Hex(s)); got != s || e != api.OK {
			t.Errorf("Unhex(Hex(%q)) = %q, %d", s, got, e)
		}
		want := slices.DeleteFunc(strings.Split(s, " "), func(w string) bool { return w == "" })
		if got := Words(s); !slices.Equal(got, want) {
			t.Errorf("Words(%q) = %q, want %q", s, got, want)
		}
	})
}
