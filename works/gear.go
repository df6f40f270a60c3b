package works

import (
	"iter"
	"slices"

	"becket/api"
	"becket/check"
	"becket/exact"
)

// mostDrivers is the greatest number of drivers of a train.
const mostDrivers = 2

// Train is a train of wheels: the drivers and the driven ones, by their numbers.
type Train struct {
	Drivers []int
	Driven  []int
}

// CheckWheels returns the first error of wheels, or OK.
func CheckWheels(w []int) api.Errno {
	return check.First(
		check.That(len(w) <= MaxWheels, api.ErrMany),
		check.Each(w, func(teeth int) api.Errno { return check.Range(teeth, MinTeeth, MaxTeeth) }),
	)
}

// CheckTrain returns the first error of a train of wheels, or OK.
func CheckTrain(w []int, t Train) api.Errno {
	drivers := len(t.Drivers)
	e := check.First(
		CheckWheels(w),
		check.That(1 <= drivers && drivers <= mostDrivers && len(t.Driven) == drivers, api.ErrShape),
	)
	if e != api.OK {
		return e
	}
	return checkNumbers(len(w), t.Drivers, t.Driven)
}

// Ratio returns the ratio of a train.
func Ratio(w []int, t Train) (api.Rat, api.Errno) {
	if e := CheckTrain(w, t); e != api.OK {
		return "", e
	}
	return exact.Write(ratioOf(w, t))
}

// Nearest returns the train whose ratio is nearest to a number.
func Nearest(w []int, x api.Rat) (Train, api.Errno) {
	if e := check.First(CheckWheels(w), check.Positive(x), check.That(len(w) >= 2, api.ErrEmpty)); e != api.OK {
		return Train{}, e
	}
	wanted := exact.Value(x)
	var nearest Train
	var least exact.Fraction
	for t := range trains(len(w)) {
		distance := ratioOf(w, t).Distance(wanted)
		if len(nearest.Drivers) == 0 || distance.Compare(least) < 0 {
			nearest, least = t, distance
		}
	}
	return nearest, api.OK
}

// Convergents returns the convergents of a number.
func Convergents(x api.Rat) ([]api.Rat, api.Errno) {
	number, e := exact.Read(x)
	if e != api.OK {
		return nil, e
	}
	var list []api.Rat
	// Two successive convergents: each one follows from the two before it, the first one from 0/1 and 1/0.
	top, bottom, nextTop, nextBottom := exact.Integer{}, exact.IntegerOf(1), exact.IntegerOf(1), exact.Integer{}
	for term := range terms(number) {
		top, nextTop = nextTop, top.Plus(term.Times(nextTop))
		bottom, nextBottom = nextBottom, bottom.Plus(term.Times(nextBottom))
		convergent, e := exact.Write(exact.Quotient(nextTop, nextBottom))
		if e != api.OK {
			return nil, e
		}
		list = append(list, convergent)
	}
	return list, api.OK
}

// checkNumbers returns the error of the first number with one, in lists of numbers of wheels.
func checkNumbers(wheels int, inLists ...[]int) api.Errno {
	var before []int
	for _, list := range inLists {
		for i, number := range list {
			e := check.First(
				check.That(number >= 0 && number < wheels, api.ErrUnknown),
				check.That(!slices.Contains(before, number), api.ErrTwice),
				check.That(i == 0 || number > list[i-1], api.ErrOrder),
			)
			if e != api.OK {
				return e
			}
			before = append(before, number)
		}
	}
	return api.OK
}

func ratioOf(w []int, t Train) exact.Fraction {
	return exact.Ratio(productOf(w, t.Drivers), productOf(w, t.Driven))
}

// productOf returns the product of the teeth of wheels, by their numbers.
func productOf(w, numbers []int) int {
	product := 1
	for _, number := range numbers {
		product *= w[number]
	}
	return product
}

// trains goes through all trains of so many wheels, those with fewer wheels first, in lexicographic order.
func trains(wheels int) iter.Seq[Train] {
	return func(yield func(Train) bool) {
		for drivers := 1; drivers <= mostDrivers; drivers++ {
			for _, first := range choices(drivers, 0, wheels) {
				for _, second := range choices(drivers, 0, wheels) {
					if areApart(first, second) && !yield(Train{Drivers: first, Driven: second}) {
						return
					}
				}
			}
		}
	}
}

// choices returns all lists of so many numbers that ascend, from a first one to the one before the end, in lexicographic order.
func choices(count, first, end int) [][]int {
	if count == 0 {
		return [][]int{nil}
	}
	var list [][]int
	for number := first; number < end; number++ {
		for _, others := range choices(count-1, number+1, end) {
			list = append(list, append([]int{number}, others...))
		}
	}
	return list
}

// areApart tells whether two lists have no number in common.
func areApart(a, b []int) bool {
	return !slices.ContainsFunc(a, func(number int) bool { return slices.Contains(b, number) })
}

// terms goes through the continued fraction of a number: its integer part, that of the reciprocal of the rest, and so on.
func terms(number exact.Fraction) iter.Seq[exact.Integer] {
	return func(yield func(exact.Integer) bool) {
		divided, divisor := number.Top(), number.Bottom()
		for !divisor.IsZero() {
			term, rest := divided.Divide(divisor)
			if !yield(term) {
				return
			}
			divided, divisor = divisor, rest
		}
	}
}
