package number

import (
	"cmp"
	"slices"

	"becket/api"
)

// CheckTable returns the first error of a table, or OK.
func CheckTable(t []api.Point) api.Errno {
	_, e := readPlaces(t)
	return e
}

// Step returns the step of a table at a number.
func Step(t []api.Point, x api.Rat) (api.Rat, api.Errno) {
	places, errorOfTable := readPlaces(t)
	at, errorOfX := read(x)
	if e := firstError(errorOfTable, errorOfX); e != api.OK {
		return "", e
	}
	reached := 0
	for reached < len(places) && places[reached].compare(at) <= 0 {
		reached++
	}
	if reached == 0 {
		return "", api.ErrRange
	}
	return t[reached-1].Y, api.OK
}

// readPlaces returns the X of the breakpoints, and the first error of the table.
func readPlaces(t []api.Point) ([]fraction, api.Errno) {
	if len(t) == 0 {
		return nil, api.ErrEmpty
	}
	if len(t) > MaxBreaks {
		return nil, api.ErrMany
	}
	places := make([]fraction, len(t))
	for i, point := range t {
		place, errorOfX := read(point.X)
		if e := firstError(errorOfX, Check(point.Y)); e != api.OK {
			return nil, e
		}
		if i > 0 && place.compare(places[i-1]) <= 0 {
			return nil, api.ErrOrder
		}
		places[i] = place
	}
	return places, api.OK
}

// Nearest returns the nearest fraction with a denominator up to a limit.
func Nearest(x api.Rat, most int) (api.Rat, api.Errno) {
	number, e := read(x)
	if e != api.OK {
		return "", e
	}
	if most < 1 || most > api.MaxNumber {
		return "", api.ErrRange
	}
	// Without the integer part all that stands in the search fits into words.
	base := whole(number.floor())
	part := number.minus(base)
	nearest := slices.MinFunc(neighbours(part, uint64(most)), func(a, b fraction) int {
		return cmp.Or(part.distance(a).compare(part.distance(b)), a.bottom.compare(b.bottom), a.compare(b))
	})
	return write(base.plus(nearest))
}

// neighbours returns the nearest fractions below and above a number from 0 on, below 1, with denominators up to a
// limit, in no fixed order; the number alone if it is such a fraction itself.
func neighbours(part fraction, most uint64) []fraction {
	var top, bottom, nextTop, nextBottom uint64 = 1, 0, 0, 1 // two successive convergents; the first ones are 1/0 and 0/1
	divided, divisor := part.bottom, part.top.size
	for len(divisor) > 0 {
		term, rest := divided.divide(divisor)
		room := (most - bottom) / nextBottom
		if term.compare(naturalOf(room)) > 0 {
			return []fraction{
				fractionOf(top+room*nextTop, bottom+room*nextBottom),
				fractionOf(nextTop, nextBottom),
			}
		}
		steps := term.lowWord()
		top, nextTop = nextTop, top+steps*nextTop
		bottom, nextBottom = nextBottom, bottom+steps*nextBottom
		divided, divisor = divisor, rest
	}
	return []fraction{part}
}

// fractionOf returns the fraction of two words, the second one not 0.
func fractionOf(top, bottom uint64) fraction {
	return quotient(signed(false, naturalOf(top)), signed(false, naturalOf(bottom)))
}
