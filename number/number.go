// Package number is layer 1: whole numbers as texts, and sums of them: see shared/doc/01-number.md.
package number

import (
	"iter"
	"slices"

	"armistice/api"
)

// maxBytes is the length of the longest text of a number, that of -2^63.
const maxBytes = 20

// leastSize is how far the least number is below 0; the greatest one is one less above it.
const leastSize = 1 << 63

// Put tells a number's text.
func Put(n int) string {
	var text []byte
	for digit := range digits(size(n)) {
		text = append(text, digit)
	}
	if n < 0 {
		text = append(text, '-')
	}
	slices.Reverse(text)
	return string(text)
}

// size is unsigned because -2^63 without its sign is no number.
func size(n int) uint64 {
	if n < 0 {
		return -uint64(n)
	}
	return uint64(n)
}

// digits goes from the last digit to the first: that way a division tells each of them, without a look ahead at how many there are. One is told always, so that 0 has a digit.
func digits(m uint64) iter.Seq[byte] {
	return func(yield func(byte) bool) {
		rest := m
		for yield('0'+byte(rest%10)) && rest >= 10 {
			rest /= 10
		}
	}
}

// Get tells the number of a text.
func Get(s string) (int, api.Fault) {
	if len(s) > maxBytes {
		return 0, api.Fault{Err: api.ErrLong, At: maxBytes}
	}
	sign := signs(s)
	if at := sign + digitsTaken(s[sign:], sign > 0); at < len(s) || at == sign {
		return 0, api.Fault{Err: api.ErrForm, At: at}
	}
	n, ok := signed(s[sign:], sign > 0)
	if !ok {
		return 0, api.Fault{Err: api.ErrRange}
	}
	return n, api.Fault{}
}

// signs tells how many bytes of s are a sign.
func signs(s string) int {
	if len(s) > 0 && s[0] == '-' {
		return 1
	}
	return 0
}

// digitsTaken tells how many bytes of s, from its first one on, may be a number's digits. A 0 ahead is the whole number, and below 0 there is no 0.
func digitsTaken(s string, below bool) int {
	if len(s) > 0 && s[0] == '0' {
		if below {
			return 0
		}
		return 1
	}
	for i := range len(s) {
		if s[i] < '0' || s[i] > '9' {
			return i
		}
	}
	return len(s)
}

// signed tells the number of s, which is digits alone; false, if it is above or below all numbers.
func signed(s string, below bool) (int, bool) {
	most := uint64(leastSize - 1)
	if below {
		most = leastSize
	}
	m := uint64(0)
	for i := range len(s) {
		digit := uint64(s[i] - '0')
		// Asked ahead of the product: 20 digits may go beyond 64 bits and look small again.
		if m > (most-digit)/10 {
			return 0, false
		}
		m = m*10 + digit
	}
	if below {
		return int(-m), true
	}
	return int(m), true
}

// Wrap sums two numbers, going round.
func Wrap(a, b int) int {
	return a + b
}

// Sum sums two numbers, if that is a number.
func Sum(a, b int) (int, api.Errno) {
	sum := Wrap(a, b)
	// What has gone round lies on the wrong side of a.
	if (sum < a) != (b < 0) {
		return 0, api.ErrRange
	}
	return sum, api.OK
}
