// Package quant is layer 1: amounts that never wrap. See shared/doc/01-quant.md.
package quant

import (
	"strconv"
	"strings"

	"stevedore/api"
)

const (
	whole     = 1000 // thousandths of one
	maxScale  = 1000 // of a share
	maxDigits = 16   // of an amount's text: fewer than an int holds
	milli     = "m"  // tells thousandths
)

// Clamp tells what a counts as: one below 0 is 0, one above MaxAmount is MaxAmount.
func Clamp(a int) int { return min(max(a, 0), api.MaxAmount) }

// Add is the sum, at most MaxAmount.
func Add(a, b int) int {
	// Two amounts are at most 1 << 51 together: the sum itself does not wrap.
	return Clamp(Clamp(a) + Clamp(b))
}

// Sub is the difference, at least 0.
func Sub(a, b int) int { return Clamp(Clamp(a) - Clamp(b)) }

// Times is a, n times, at most MaxAmount.
func Times(a, n int) int {
	a, n = Clamp(a), Clamp(n)
	// A product of two amounts may wrap: whether it is too great is asked ahead of it.
	if n != 0 && a > api.MaxAmount/n {
		return api.MaxAmount
	}
	return a * n
}

// Share is a times scale by of, rounded down, at most scale; 0, if of is 0.
func Share(a, of, scale int) int {
	a, of = Clamp(a), Clamp(of)
	scale = min(max(scale, 0), maxScale)
	if of == 0 {
		return 0
	}
	// At most 1000 << 50, which does not wrap.
	return min(a*scale/of, scale)
}

// Parse reads an amount's text: ErrArg, if it is none; ErrLong, if its amount is above MaxAmount.
func Parse(s string) (int, api.Errno) {
	unit := whole
	digits, thousandths := strings.CutSuffix(s, milli)
	if thousandths {
		unit = 1
	}
	if !isNumber(digits) {
		return 0, api.ErrArg
	}
	n := number(digits)
	// 16 digits of whole ones would wrap as thousandths: n is held against the bound first.
	if n > api.MaxAmount/unit {
		return 0, api.ErrLong
	}
	return n * unit, api.OK
}

// isNumber asks for 1 to 16 digits without a 0 ahead of others.
func isNumber(s string) bool {
	if len(s) == 0 || len(s) > maxDigits {
		return false
	}
	if s[0] == '0' && len(s) > 1 {
		return false
	}
	for i := range len(s) {
		if s[i] < '0' || s[i] > '9' {
			return false
		}
	}
	return true
}

// number is the value of digits that isNumber took.
func number(digits string) int {
	n := 0
	for i := range len(digits) {
		n = 10*n + int(digits[i]-'0')
	}
	return n
}

// Print tells whole ones, if a is a multiple of 1000; else the thousandths and m.
func Print(a int) string {
	a = Clamp(a)
	if a%whole == 0 {
		return strconv.Itoa(a / whole)
	}
	return strconv.Itoa(a) + milli
}
