package number

import (
	"cmp"
	"slices"

	"becket/api"
	"becket/exact"
)

// CheckTable returns the first error of a table, or OK.
func CheckTable(t []api.Point) api.Errno {
	_, e := readPlaces(t)
	return e
}

// Step returns the step of a table at a number.
func Step(t []api.Point, x api.Rat) (api.Rat, api.Errno) {
	places, errorOfTable := readPlaces(t)
	at, errorOfX := exact.Read(x)
	if e := firstError(errorOfTable, errorOfX); e != api.OK {
		return "", e
	}
	reached := 0
	for reached < len(places) && places[reached].Compare(at) <= 0 {
		reached++
	}
	if reached == 0 {
		return "", api.ErrRange
	}
	return t[reached-1].Y, api.OK
}

// readPlaces returns the X of the breakpoints, and the first error of the table.
func readPlaces(t []api.Point) ([]exact.Fraction, api.Errno) {
	if len(t) == 0 {
		return nil, api.ErrEmpty
	}
	if len(t) > MaxBreaks {
		return nil, api.ErrMany
	}
	places := make([]exact.Fraction, len(t))
	for i, point := range t {
		place, errorOfX := exact.Read(point.X)
		if e := firstError(errorOfX, Check(point.Y)); e != api.OK {
			return nil, e
		}
		if i > 0 && place.Compare(places[i-1]) <= 0 {
			return nil, api.ErrOrder
		}
		places[i] = place
	}
	return places, api.OK
}

// Nearest returns the nearest fraction with a denominator up to a limit.
func Nearest(x api.Rat, most int) (api.Rat, api.Errno) {
	number, e := exact.Read(x)
	if e != api.OK {
		return "", e
	}
	if most < 1 || most > api.MaxNumber {
		return "", api.ErrRange
	}
	// Without the integer part all that stands in the search fits into words.
	base := exact.Whole(number.Floor())
	part := number.Minus(base)
	nearest := slices.MinFunc(neighbours(part, most), func(a, b exact.Fraction) int {
		byDistance := part.Distance(a).Compare(part.Distance(b))
		return cmp.Or(byDistance, a.Bottom().Compare(b.Bottom()), a.Compare(b))
	})
	return exact.Write(base.Plus(nearest))
}

// neighbours returns the nearest fractions below and above a number from 0 on, below 1, with denominators up to a
// limit, in no fixed order; the number alone if it is such a fraction itself.
func neighbours(part exact.Fraction, most int) []exact.Fraction {
	top, bottom, nextTop, nextBottom := 1, 0, 0, 1 // two successive convergents; the first ones are 1/0 and 0/1
	divided, divisor := part.Bottom(), part.Top()
	for !divisor.IsZero() {
		term, rest := divided.Divide(divisor)
		steps, fits := term.Int()
		if room := (most - bottom) / nextBottom; !fits || steps > room {
			return []exact.Fraction{
				exact.Ratio(top+room*nextTop, bottom+room*nextBottom),
				exact.Ratio(nextTop, nextBottom),
			}
		}
		top, nextTop = nextTop, top+steps*nextTop
		bottom, nextBottom = nextBottom, bottom+steps*nextBottom
		divided, divisor = divisor, rest
	}
	return []exact.Fraction{part}
}
