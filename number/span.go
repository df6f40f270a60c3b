package number

import (
	"slices"
	"strings"

	"becket/api"
	"becket/exact"
)

// decimalsOfPi are the digits of pi without the point.
const decimalsOfPi = "3141592653589793238462643383279"

// interval is a span that has been read.
type interval struct {
	low, high exact.Fraction
}

// CheckSpan returns the first error of a span, or OK.
func CheckSpan(s api.Span) api.Errno {
	_, e := readSpan(s)
	return e
}

// Plus returns the sum of two spans.
func Plus(a, b api.Span) (api.Span, api.Errno) {
	return combineSpans(a, b, exact.Fraction.Plus)
}

// Minus returns the difference of two spans.
func Minus(a, b api.Span) (api.Span, api.Errno) {
	return combineSpans(a, b, exact.Fraction.Minus)
}

// Times returns the product of two spans.
func Times(a, b api.Span) (api.Span, api.Errno) {
	return combineSpans(a, b, exact.Fraction.Times)
}

// Over returns the quotient of two spans.
func Over(a, b api.Span) (api.Span, api.Errno) {
	x, y, e := readSpans(a, b)
	if e != api.OK {
		return api.Span{}, e
	}
	if y.hasZero() {
		return api.Span{}, api.ErrZero
	}
	return writeSpan(combineIntervals(x, y, exact.Fraction.Over))
}

// Compare compares two spans.
func Compare(a, b api.Span) (int, api.Errno) {
	x, y, e := readSpans(a, b)
	switch {
	case e != api.OK:
		return 0, e
	case a == b && a.Low == a.High:
		return 0, api.OK
	case x.high.Compare(y.low) < 0:
		return -1, api.OK
	case x.low.Compare(y.high) > 0:
		return 1, api.OK
	}
	return 0, api.ErrOpen
}

// Root returns a span that contains the root of a number.
func Root(a api.Rat) (api.Span, api.Errno) {
	x, e := exact.Read(a)
	if e != api.OK {
		return api.Span{}, e
	}
	if x.Top().IsNegative() {
		return api.Span{}, api.ErrRange
	}
	low, high := x.Root()
	return writeSpan(interval{low, high})
}

// Pi returns a span that contains pi, with k decimals.
func Pi(k int) (api.Span, api.Errno) {
	if k < 1 || k > MaxDecimals {
		return api.Span{}, api.ErrRange
	}
	return writeSpan(decimalSpan(integerOfDigits(decimalsOfPi[:1+k]), k))
}

// decimalSpan returns the span of one unit in the last of some decimals that begins with so many units.
func decimalSpan(units exact.Integer, decimals int) interval {
	scale := integerOfDigits("1" + strings.Repeat("0", decimals))
	next := units.Plus(exact.IntegerOf(1))
	return interval{exact.Quotient(units, scale), exact.Quotient(next, scale)}
}

// integerOfDigits returns the integer of up to MaxDigits digits, the first one not 0.
func integerOfDigits(digits string) exact.Integer {
	value, _ := exact.Read(api.Rat(digits))
	return value.Top()
}

func combineSpans(a, b api.Span, operation func(x, y exact.Fraction) exact.Fraction) (api.Span, api.Errno) {
	x, y, e := readSpans(a, b)
	if e != api.OK {
		return api.Span{}, e
	}
	return writeSpan(combineIntervals(x, y, operation))
}

// combineIntervals returns all results of an operation that only rises or only falls with one number as long as the
// other one stays, so that its least and its greatest result are among those of the ends.
func combineIntervals(x, y interval, operation func(x, y exact.Fraction) exact.Fraction) interval {
	corners := []exact.Fraction{
		operation(x.low, y.low), operation(x.low, y.high),
		operation(x.high, y.low), operation(x.high, y.high),
	}
	return interval{slices.MinFunc(corners, exact.Fraction.Compare), slices.MaxFunc(corners, exact.Fraction.Compare)}
}

func (x interval) hasZero() bool {
	above := !x.low.Top().IsNegative() && !x.low.IsZero()
	return !above && !x.high.Top().IsNegative()
}

func readSpan(s api.Span) (interval, api.Errno) {
	low, high, e := readBoth(s.Low, s.High)
	if e == api.OK && low.Compare(high) > 0 {
		e = api.ErrOrder
	}
	return interval{low, high}, e
}

func readSpans(a, b api.Span) (interval, interval, api.Errno) {
	x, errorOfX := readSpan(a)
	y, errorOfY := readSpan(b)
	return x, y, firstError(errorOfX, errorOfY)
}

func writeSpan(x interval) (api.Span, api.Errno) {
	low, errorOfLow := exact.Write(x.low)
	high, errorOfHigh := exact.Write(x.high)
	if e := firstError(errorOfLow, errorOfHigh); e != api.OK {
		return api.Span{}, e
	}
	return api.Span{Low: low, High: high}, api.OK
}
