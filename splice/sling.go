package splice

import (
	"sort"

	"becket/api"
	"becket/check"
	"becket/exact"
)

// Limits of slings.
const (
	MaxLegs  = 4
	MaxReach = 100000
)

// mostCarrying is the greatest number of legs of a sling that carry a load.
const mostCarrying = 3

// Sling has equal legs: their number, the height of the hook above their ends, and how far these are from the vertical line
// through the hook.
type Sling struct {
	Legs   int
	Height int
	Spread int
}

// CheckSling returns the first error of a sling, or OK.
func CheckSling(s Sling) api.Errno {
	return check.First(
		check.Range(s.Legs, 1, MaxLegs),
		check.Range(s.Height, 1, MaxReach),
		check.Range(s.Spread, 0, MaxReach),
	)
}

// Cosine returns the square of the cosine of a leg.
func Cosine(s Sling) (api.Rat, api.Errno) {
	if e := CheckSling(s); e != api.OK {
		return "", e
	}
	return exact.Write(squareOfCosine(s))
}

// Leg returns the load of a leg.
func Leg(s Sling, load api.Rat) (api.Span, api.Errno) {
	if e := check.First(CheckSling(s), check.FromZero(load)); e != api.OK {
		return api.Span{}, e
	}
	// The square may have too many digits though its root has not.
	low, high := squareOfLeg(s, load).Root()
	lowEnd, errorOfLow := exact.Write(low)
	highEnd, errorOfHigh := exact.Write(high)
	if e := check.First(errorOfLow, errorOfHigh); e != api.OK {
		return api.Span{}, e
	}
	return api.Span{Low: lowEnd, High: highEnd}, api.OK
}

// Safe returns OK for a load that no leg takes above a limit.
func Safe(s Sling, load, limit api.Rat) api.Errno {
	if e := check.First(CheckSling(s), check.FromZero(load), check.FromZero(limit)); e != api.OK {
		return e
	}
	safe := squareOfLeg(s, load).Compare(squareOf(exact.Value(limit))) <= 0
	return check.That(safe, api.ErrLoad)
}

// Widest returns the greatest spread of a safe sling.
func Widest(s Sling, load, limit api.Rat) (int, api.Errno) {
	if e := check.First(CheckSling(s), Safe(withSpread(s, 0), load, limit)); e != api.OK {
		return 0, e
	}
	// A wider sling never has less load on its legs, so that the first spread whose next one is not safe is the greatest safe one.
	return sort.Search(MaxReach, func(spread int) bool {
		return Safe(withSpread(s, spread+1), load, limit) != api.OK
	}), api.OK
}

// withSpread returns a copy of a sling with another spread.
func withSpread(s Sling, spread int) Sling {
	s.Spread = spread
	return s
}

func squareOfCosine(s Sling) exact.Fraction {
	height, spread := squareOf(exact.Ratio(s.Height, 1)), squareOf(exact.Ratio(s.Spread, 1))
	return height.Over(height.Plus(spread))
}

// squareOfLeg returns the square of the load of a leg.
func squareOfLeg(s Sling, load api.Rat) exact.Fraction {
	carrying := exact.Ratio(min(s.Legs, mostCarrying), 1)
	return squareOf(exact.Value(load).Over(carrying)).Over(squareOfCosine(s))
}

func squareOf(a exact.Fraction) exact.Fraction {
	return a.Times(a)
}
