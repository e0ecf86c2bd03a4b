// Package count is layer 1: numbers, bytes and words in writing. See shared/doc/01-count.md.
package count

import (
	"strconv"
	"strings"

	"solder/api"
)

const hexDigits = "0123456789abcdef"

// Text is a number in digits.
func Text(n int) string { return strconv.Itoa(n) }

// Read is the number that a text says.
func Read(s string) (int, api.Errno) {
	if s == "-0" || !isNatural(strings.TrimPrefix(s, "-")) {
		return 0, api.ErrForm
	}
	// The form was looked at above, as strconv lets more be than the document does; what is left to go wrong is the range.
	n, err := strconv.ParseInt(s, 10, 64)
	if err != nil {
		return 0, api.ErrRange
	}
	return int(n), api.OK
}

// isNatural tells whether a text is digits, of which none is a nought ahead of another one.
func isNatural(s string) bool {
	for _, c := range s {
		if c < '0' || c > '9' {
			return false
		}
	}
	return s == "0" || s != "" && s[0] != '0'
}

// Hex is bytes, each as two digits.
func Hex(s string) string {
	digits := make([]byte, 0, 2*len(s))
	// By bytes, not by characters: a text may be bytes that are no characters.
	for i := range len(s) {
		digits = append(digits, hexDigits[s[i]>>4], hexDigits[s[i]&15])
	}
	return string(digits)
}

// Unhex is the bytes that digits say.
func Unhex(s string) (string, api.Errno) {
	if len(s)%2 != 0 {
		return "", api.ErrForm
	}
	data := make([]byte, 0, len(s)/2)
	high := 0
	for i, c := range s {
		v, ok := hexValue(c)
		if !ok {
			return "", api.ErrForm
		}
		if i%2 == 0 {
			high = v
		} else {
			data = append(data, byte(high<<4|v))
		}
	}
	return string(data), api.OK
}

// hexValue is what a digit of Hex stands for. Capitals are none: each byte is written in one way.
func hexValue(c rune) (int, bool) {
	switch {
	case c >= '0' && c <= '9':
		return int(c - '0'), true
	case c >= 'a' && c <= 'f':
		return int(c-'a') + 10, true
	}
	return 0, false
}

// Words are the words of a line.
func Words(s string) []string {
	var words []string
	from := 0
	for i, c := range s {
		if c == ' ' {
			words = appendWord(words, s[from:i])
			from = i + 1
		}
	}
	return appendWord(words, s[from:])
}

// appendWord leaves out the empty parts that blanks at the ends, or beside each other, cut off.
func appendWord(words []string, word string) []string {
	if word == "" {
		return words
	}
	return append(words, word)
}
