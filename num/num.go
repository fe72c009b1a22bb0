// Package num is layer 1: whole numbers that are checked. See shared/doc/01-num.md.
package num

import (
	"math/bits"

	"wattle/api"
)

// least is how far the numbers go below 0; above it they go one less far.
const least = 1 << 63

// digits is the ten digits, in order.
var digits = [10]byte{'0', '1', '2', '3', '4', '5', '6', '7', '8', '9'}

// Add is a + b.
func Add(a, b int64) (int64, api.Errno) {
	sum := a + b
	// A sum that does not fit wraps round, and so lies on the wrong side of a.
	if (sum < a) != (b < 0) {
		return 0, api.ErrOverflow
	}
	return sum, api.OK
}

// Sub is a - b.
func Sub(a, b int64) (int64, api.Errno) {
	rest := a - b
	if (rest > a) != (b < 0) {
		return 0, api.ErrOverflow
	}
	return rest, api.OK
}

// Neg is -a.
func Neg(a int64) (int64, api.Errno) { return Sub(0, a) }

// Mul is a times b.
func Mul(a, b int64) (int64, api.Errno) {
	high, low := bits.Mul64(size(a), size(b))
	if high != 0 {
		return 0, api.ErrOverflow
	}
	return signed(low, (a < 0) != (b < 0))
}

// Div is a divided by b, towards 0.
func Div(a, b int64) (int64, api.Errno) {
	if b == 0 {
		return 0, api.ErrOverflow
	}
	return signed(size(a)/size(b), (a < 0) != (b < 0))
}

// Mod is what is left of a by b, with a's sign.
func Mod(a, b int64) (int64, api.Errno) {
	if b == 0 {
		return 0, api.ErrOverflow
	}
	return signed(size(a)%size(b), a < 0)
}

// size is how far a is from 0: of the least number, too, which has no negative.
func size(a int64) uint64 {
	if a < 0 {
		return -uint64(a)
	}
	return uint64(a)
}

// signed is the number that is so far from 0, below it or not.
func signed(far uint64, below bool) (int64, api.Errno) {
	if far > least || far == least && !below {
		return 0, api.ErrOverflow
	}
	if below {
		return int64(-far), api.OK
	}
	return int64(far), api.OK
}

// Text is a number's digits.
func Text(n int64) string {
	var out [20]byte // a - and the nineteen digits of the least number
	at := len(out)
	for far := size(n); ; far /= 10 {
		at--
		out[at] = digits[far%10]
		if far < 10 {
			break
		}
	}
	if n < 0 {
		at--
		out[at] = '-'
	}
	return string(out[at:])
}

// Parse is the number of its digits.
func Parse(s string) (int64, api.Errno) {
	below := s != "" && s[0] == '-'
	if below {
		s = s[1:]
	}
	if !written(s) || below && s == "0" {
		return 0, api.ErrSyntax
	}
	far, e := count(s)
	if e != api.OK {
		return 0, e
	}
	return signed(far, below)
}

// written tells whether s is digits, as a number has them: without noughts ahead.
func written(s string) bool {
	if s == "" || len(s) > 1 && s[0] == digits[0] {
		return false
	}
	for i := range len(s) {
		if s[i] < digits[0] || s[i] > digits[9] {
			return false
		}
	}
	return true
}

// count is the number that digits tell, as far as least.
func count(s string) (uint64, api.Errno) {
	far := uint64(0)
	for i := range len(s) {
		digit := uint64(s[i] - digits[0])
		if far > (least-digit)/10 {
			return 0, api.ErrOverflow
		}
		far = far*10 + digit
	}
	return far, api.OK
}
