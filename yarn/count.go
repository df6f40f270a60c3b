package yarn

import (
	"becket/api"
	"becket/check"
	"becket/exact"
	"becket/number"
)

// System is a system of counts.
type System struct {
	Length int
	Mass   int
	Direct bool
}

// CheckSystem returns the first error of a system, or OK.
func CheckSystem(s System) api.Errno {
	return check.First(check.Range(s.Length, 1, api.MaxNumber), check.Range(s.Mass, 1, api.MaxNumber))
}

// Density returns the mass of a metre of a yarn with a count.
func Density(s System, count api.Rat) (api.Rat, api.Errno) {
	if e := check.First(CheckSystem(s), check.Positive(count)); e != api.OK {
		return "", e
	}
	if s.Direct {
		return number.Mul(count, unitOf(s))
	}
	return number.Div(unitOf(s), count)
}

// Count returns the count of a yarn with a density.
func Count(s System, density api.Rat) (api.Rat, api.Errno) {
	if e := check.First(CheckSystem(s), check.Positive(density)); e != api.OK {
		return "", e
	}
	if s.Direct {
		return number.Div(density, unitOf(s))
	}
	return number.Div(unitOf(s), density)
}

// Convert returns a count in another system.
func Convert(from, to System, count api.Rat) (api.Rat, api.Errno) {
	if e := check.First(CheckSystem(from), CheckSystem(to), check.Positive(count)); e != api.OK {
		return "", e
	}
	// The units are joined first: they are short, while the density on the way may have too many digits.
	above, below := unitOf(to), unitOf(from)
	if to.Direct {
		above, below = below, above
	}
	factor, _ := number.Div(above, below)
	if from.Direct == to.Direct {
		return number.Mul(factor, count)
	}
	return number.Div(factor, count)
}

// unitOf returns the density of the count 1.
func unitOf(s System) api.Rat {
	unit, _ := number.Of(s.Mass, s.Length)
	return unit
}

// Mass returns the mass of a length of a yarn.
func Mass(y Yarn, length api.Rat) (api.Rat, api.Errno) {
	if e := check.First(CheckYarn(y), check.FromZero(length)); e != api.OK {
		return "", e
	}
	return number.Mul(y.Density, length)
}

// Length returns the length of a mass of a yarn.
func Length(y Yarn, mass api.Rat) (api.Rat, api.Errno) {
	if e := check.First(CheckYarn(y), check.FromZero(mass)); e != api.OK {
		return "", e
	}
	return number.Div(mass, y.Density)
}

// Bobbins returns the least number of bobbins that a length needs.
func Bobbins(y Yarn, capacity int, length api.Rat) (int, api.Errno) {
	if e := check.First(CheckYarn(y), check.Range(capacity, 1, api.MaxNumber), check.FromZero(length)); e != api.OK {
		return 0, e
	}
	// The mass may have too many digits though the number of bobbins is small.
	mass := exact.Value(y.Density).Times(exact.Value(length))
	loads := mass.Over(exact.Whole(exact.IntegerOf(capacity)))
	bobbins, fits := loads.Ceiling().Int()
	if !fits || bobbins > api.MaxNumber {
		return 0, api.ErrLarge
	}
	return bobbins, api.OK
}
