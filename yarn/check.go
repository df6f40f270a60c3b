package yarn

import (
	"becket/api"
	"becket/check"
)

// checkDye returns the error of a name that may be empty.
func checkDye(dye string) api.Errno {
	if dye == "" {
		return api.OK
	}
	return check.Name(dye)
}

// checkFactor returns the error of a factor of a ply.
func checkFactor(factor api.Rat) api.Errno {
	return check.First(check.Positive(factor), check.Part(factor))
}

// checkStrength returns the first error of a table of strengths.
func checkStrength(table []api.Point) api.Errno {
	if len(table) == 0 {
		return api.ErrEmpty
	}
	if len(table) > api.MaxList {
		return api.ErrMany
	}
	return check.Ascending(
		table,
		func(point api.Point) api.Errno { return check.First(check.FromZero(point.X), check.FromZero(point.Y)) },
		func(before, next api.Point) bool { return !isAtMost(next.X, before.X) },
	)
}

// checkYarns returns the first error of the yarns of a ply.
func checkYarns(l []Yarn) api.Errno {
	if len(l) == 0 {
		return api.ErrEmpty
	}
	if len(l) > api.MaxStrands {
		return api.ErrMany
	}
	return check.Each(l, CheckYarn)
}
