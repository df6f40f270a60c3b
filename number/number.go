// Package number computes with fractions of any size, and with spans of them; it has permutations, tables, nearest
// fractions, shares, drawn orders, and equations with a solution or a refutation.
package number

import (
	"becket/api"
	"becket/exact"
)

// Limits of tables, equations and decimals.
const (
	MaxBreaks    = 64
	MaxEquations = 24
	MaxDecimals  = 30
)

// IsName reports whether a text is a name.
func IsName(s string) bool {
	for i, letter := range s {
		laterOnly := isDigit(letter) || letter == '_'
		if !isLetter(letter) && (i == 0 || !laterOnly) {
			return false
		}
	}
	return len(s) >= 1 && len(s) <= api.MaxName
}

func isLetter(letter rune) bool {
	return letter >= 'A' && letter <= 'Z' || letter >= 'a' && letter <= 'z'
}

func isDigit(letter rune) bool {
	return letter >= '0' && letter <= '9'
}

// Check returns the first error of a number, or OK.
func Check(a api.Rat) api.Errno {
	_, e := exact.Read(a)
	return e
}

// Of returns the quotient of two integers.
func Of(num, den int) (api.Rat, api.Errno) {
	if den == 0 {
		return "", api.ErrZero
	}
	return exact.Write(exact.Quotient(exact.IntegerOf(num), exact.IntegerOf(den)))
}

// Add returns the sum.
func Add(a, b api.Rat) (api.Rat, api.Errno) {
	return combine(a, b, exact.Fraction.Plus)
}

// Sub returns the difference.
func Sub(a, b api.Rat) (api.Rat, api.Errno) {
	return combine(a, b, exact.Fraction.Minus)
}

// Mul returns the product.
func Mul(a, b api.Rat) (api.Rat, api.Errno) {
	return combine(a, b, exact.Fraction.Times)
}

// Div returns the quotient.
func Div(a, b api.Rat) (api.Rat, api.Errno) {
	x, y, e := readBoth(a, b)
	if e != api.OK {
		return "", e
	}
	if y.IsZero() {
		return "", api.ErrZero
	}
	return exact.Write(x.Over(y))
}

// Order compares two numbers.
func Order(a, b api.Rat) (int, api.Errno) {
	x, y, e := readBoth(a, b)
	if e != api.OK {
		return 0, e
	}
	return x.Compare(y), api.OK
}

// Floor returns the greatest integer that is not above a number.
func Floor(a api.Rat) (api.Rat, api.Errno) {
	x, e := exact.Read(a)
	if e != api.OK {
		return "", e
	}
	return exact.Write(exact.Whole(x.Floor()))
}

// combine returns what an operation without errors of its own makes of two numbers.
func combine(a, b api.Rat, operation func(x, y exact.Fraction) exact.Fraction) (api.Rat, api.Errno) {
	x, y, e := readBoth(a, b)
	if e != api.OK {
		return "", e
	}
	return exact.Write(operation(x, y))
}

func readBoth(a, b api.Rat) (exact.Fraction, exact.Fraction, api.Errno) {
	x, errorOfX := exact.Read(a)
	y, errorOfY := exact.Read(b)
	return x, y, firstError(errorOfX, errorOfY)
}

// firstError returns the first error that is not OK, or OK.
func firstError(codes ...api.Errno) api.Errno {
	for _, e := range codes {
		if e != api.OK {
			return e
		}
	}
	return api.OK
}
