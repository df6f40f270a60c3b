// Package check finds the first error of arguments, and the first rule that is broken, for all layers from yarn on.
package check

import (
	"becket/api"
	"becket/number"
)

// First returns the first error that is not OK, or OK.
func First(codes ...api.Errno) api.Errno {
	for _, e := range codes {
		if e != api.OK {
			return e
		}
	}
	return api.OK
}

// Each returns the error of the first element with one.
func Each[T any](list []T, check func(T) api.Errno) api.Errno {
	for _, element := range list {
		if e := check(element); e != api.OK {
			return e
		}
	}
	return api.OK
}

// Ascending returns the error of the first element with one, which is ErrOrder if it does not ascend after the one before it.
func Ascending[T any](list []T, check func(T) api.Errno, ascends func(before, next T) bool) api.Errno {
	for i, element := range list {
		if e := check(element); e != api.OK {
			return e
		}
		if i > 0 && !ascends(list[i-1], element) {
			return api.ErrOrder
		}
	}
	return api.OK
}

// That returns the error of a condition that does not hold.
func That(holds bool, e api.Errno) api.Errno {
	if holds {
		return api.OK
	}
	return e
}

// Range returns the error of an int that has to be from one to another.
func Range(value, least, most int) api.Errno {
	return That(least <= value && value <= most, api.ErrRange)
}

// Name returns the error of a text that has to be a name.
func Name(name string) api.Errno {
	return That(number.IsName(name), api.ErrName)
}

// Positive returns the error of a number that has to be above 0.
func Positive(a api.Rat) api.Errno {
	return sign(a, 1)
}

// FromZero returns the error of a number that has to be from 0 on.
func FromZero(a api.Rat) api.Errno {
	return sign(a, 0)
}

// Part returns the error of a number that has to be from 0 to 1.
func Part(a api.Rat) api.Errno {
	order, e := number.Order(a, "1")
	return First(e, FromZero(a), That(order <= 0, api.ErrRange))
}

// Broken returns the number, from 1 on, of the first of some rules that does not hold, or 0. A rule may rely on those before it.
func Broken(rules ...func() bool) int {
	for i, holds := range rules {
		if !holds() {
			return i + 1
		}
	}
	return 0
}

// sign returns the error of a number whose sign (-1, 0 or 1) has to be at least one.
func sign(a api.Rat, least int) api.Errno {
	order, e := number.Order(a, "0")
	return First(e, That(order >= least, api.ErrRange))
}
