// Package fixed is layer 1: lengths, their sums, products and parts, and shares of them; see shared/doc/01-fixed.md.
package fixed

import "windowpane/api"

const (
	wholePart = 10000
	lowerBits = 20
	lowerMask = 1<<lowerBits - 1
)

// Fits tells whether all numbers are lengths (P1.1).
func Fits(n ...int) bool {
	for _, x := range n {
		if x < -api.MaxCoord || x > api.MaxCoord {
			return false
		}
	}
	return true
}

// Add tells the sum of lengths (P1.1).
func Add(n ...int) (int, api.Errno) {
	if !Fits(n...) {
		return 0, api.ErrOver
	}
	// So many lengths may come that their sum passes an int and wraps round
	// to a length: the upper and the lower bits are summed apart.
	upper, lower := 0, 0
	for _, x := range n {
		upper += x >> lowerBits
		lower += x & lowerMask
	}
	upper += lower >> lowerBits
	if !Fits(upper) {
		return 0, api.ErrOver
	}
	return length(upper<<lowerBits + lower&lowerMask)
}

// Sub tells the difference of two lengths (P1.1).
func Sub(a, b int) (int, api.Errno) {
	if !Fits(a, b) {
		return 0, api.ErrOver
	}
	return length(a - b)
}

// Mul tells the product of two lengths (P1.1).
func Mul(a, b int) (int, api.Errno) {
	if !Fits(a, b) {
		return 0, api.ErrOver
	}
	// The product may pass an int: the bound is divided instead.
	if a != 0 && size(b) > api.MaxCoord/size(a) {
		return 0, api.ErrOver
	}
	return a * b, api.OK
}

// Part tells n times a length, divided by 10,000, rounded to 0 (P1.2).
func Part(n, of int) (int, api.Errno) {
	if n < 0 || n > api.MaxPart {
		return 0, api.ErrArg
	}
	if !Fits(of) {
		return 0, api.ErrOver
	}
	return length(n * of / wholePart)
}

// Clamp brings n to most from above, then to least from below (P1.3).
func Clamp(n, least, most int) int {
	return max(min(n, most), least)
}

func length(n int) (int, api.Errno) {
	if !Fits(n) {
		return 0, api.ErrOver
	}
	return n, api.OK
}

func size(n int) int { return max(n, -n) }
