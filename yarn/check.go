package yarn

import (
	"becket/api"
	"becket/number"
)

// firstError returns the first error that is not OK, or OK.
func firstError(codes ...api.Errno) api.Errno {
	for _, e := range codes {
		if e != api.OK {
			return e
		}
	}
	return api.OK
}

// checkEach returns the error of the first element with one.
func checkEach[T any](list []T, check func(T) api.Errno) api.Errno {
	for _, element := range list {
		if e := check(element); e != api.OK {
			return e
		}
	}
	return api.OK
}

func checkRange(value, least, most int) api.Errno {
	if value < least || value > most {
		return api.ErrRange
	}
	return api.OK
}

func checkName(name string) api.Errno {
	if !number.IsName(name) {
		return api.ErrName
	}
	return api.OK
}

// checkDye returns the error of a name that may be empty.
func checkDye(dye string) api.Errno {
	if dye == "" {
		return api.OK
	}
	return checkName(dye)
}

// checkPositive returns the error of a number that has to be above 0.
func checkPositive(a api.Rat) api.Errno {
	return checkSign(a, 1)
}

// checkFromZero returns the error of a number that has to be from 0 on.
func checkFromZero(a api.Rat) api.Errno {
	return checkSign(a, 0)
}

// checkSign returns the error of a number whose sign (-1, 0 or 1) has to be at least one.
func checkSign(a api.Rat, least int) api.Errno {
	sign, e := number.Order(a, "0")
	if e == api.OK && sign < least {
		e = api.ErrRange
	}
	return e
}

// checkFactor returns the error of a factor of a ply.
func checkFactor(factor api.Rat) api.Errno {
	e := checkPositive(factor)
	if e == api.OK && !isAtMost(factor, "1") {
		e = api.ErrRange
	}
	return e
}

// checkStrength returns the first error of a table of strengths.
func checkStrength(table []api.Point) api.Errno {
	if len(table) == 0 {
		return api.ErrEmpty
	}
	if len(table) > api.MaxList {
		return api.ErrMany
	}
	for i, point := range table {
		if e := firstError(checkFromZero(point.X), checkFromZero(point.Y)); e != api.OK {
			return e
		}
		if i > 0 && isAtMost(point.X, table[i-1].X) {
			return api.ErrOrder
		}
	}
	return api.OK
}

// checkYarns returns the first error of the yarns of a ply.
func checkYarns(l []Yarn) api.Errno {
	if len(l) == 0 {
		return api.ErrEmpty
	}
	if len(l) > api.MaxStrands {
		return api.ErrMany
	}
	return checkEach(l, CheckYarn)
}
