// Package num is layer 1: see shared/doc/01-num.md.
package num

import (
	"strings"

	"plexus/api"
)

// A number's bytes hold width bits each; all but the last have more added.
const (
	width = 7
	more  = 1 << width
	tenth = 9 // the place, from 0 on, of the last byte that 64 bits can need
)

// maxDigits is how many digits the longest number of 64 bits has; that many never overrun a uint64.
const maxDigits = 19

// Put puts a number behind bytes.
func Put(b []byte, n int) []byte {
	// Copied first: an append to b itself could write into room that is not ours.
	out := append(make([]byte, 0, len(b)+tenth+1), b...)
	u := fold(n)
	for u >= more {
		out = append(out, byte(u%more)+more)
		u >>= width
	}
	return append(out, byte(u))
}

// Get answers the number at the beginning.
func Get(b []byte) (int, []byte, api.Errno) {
	u, size, err := read(b)
	if err != api.OK {
		return 0, nil, err
	}
	return unfold(u), append([]byte(nil), b[size:]...), api.OK
}

// PutText puts a text behind bytes.
func PutText(b []byte, s string) []byte {
	return append(Put(b, len(s)), s...)
}

// GetText answers the text at the beginning.
func GetText(b []byte) (string, []byte, api.Errno) {
	n, rest, err := Get(b)
	switch {
	case err != api.OK:
		return "", nil, err
	case n < 0 || n > api.MaxText:
		return "", nil, api.ErrForm
	case n > len(rest):
		return "", nil, api.ErrShort
	}
	return string(rest[:n]), rest[n:], api.OK
}

// Dec writes a number.
func Dec(n int) string {
	m := uint64(n)
	if n < 0 {
		m = -m // of the least number too: its negative fits in 64 bits without a sign
	}
	count := countDigits(m)
	digits := make([]byte, count)
	for i := range count {
		digits[count-1-i] = '0' + byte(m%10)
		m /= 10
	}
	if n < 0 {
		return "-" + string(digits)
	}
	return string(digits)
}

// Parse reads one.
func Parse(s string) (int, bool) {
	digits, below := strings.CutPrefix(s, "-")
	m, ok := parseDigits(digits)
	if !ok {
		return 0, false
	}
	n := int(m)
	if below {
		n = -n
	}
	// Noughts ahead, no digits, -0 and what wrapped round all show here.
	if Dec(n) != s {
		return 0, false
	}
	return n, true
}

// fold lays numbers below 0 between the others, so that small ones of both kinds have few bytes.
func fold(n int) uint64 {
	if n < 0 {
		return ^(uint64(n) << 1)
	}
	return uint64(n) << 1
}

// unfold undoes fold.
func unfold(u uint64) int {
	if u%2 == 1 {
		return int(^(u >> 1))
	}
	return int(u >> 1)
}

// read answers the folded number at the beginning of b, and how many bytes it has.
func read(b []byte) (uint64, int, api.Errno) {
	var u uint64
	size, great := 0, false
	// A number that never ends is short, whatever else is wrong with it: so one that is too great is gone through to its end.
bytes:
	for i, c := range b {
		great = great || i == tenth && c > 1
		u |= uint64(c%more) << (width * i)
		switch {
		case c >= more:
			continue bytes
		case i > 0 && c == 0:
			return 0, 0, api.ErrForm
		default:
			size = i + 1
			break bytes
		}
	}
	switch {
	case size == 0:
		return 0, 0, api.ErrShort
	case great:
		return 0, 0, api.ErrForm
	}
	return u, size, api.OK
}

// countDigits answers how many decimal digits m has.
func countDigits(m uint64) int {
	count := 1
	for m >= 10 {
		m /= 10
		count++
	}
	return count
}

// parseDigits answers the number of at most maxDigits decimal digits.
func parseDigits(s string) (uint64, bool) {
	if len(s) > maxDigits {
		return 0, false
	}
	var m uint64
	for i := range len(s) {
		d := s[i] - '0'
		if d > 9 {
			return 0, false
		}
		m = m*10 + uint64(d)
	}
	return m, true
}
