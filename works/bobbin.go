package works

import (
	"math"
	"slices"

	"becket/api"
	"becket/check"
	"becket/exact"
	"becket/lists"
	"becket/number"
)

// CheckBobbins returns the first error of bobbins and uses, or OK.
func CheckBobbins(lengths, uses []api.Rat) api.Errno {
	e := check.First(
		check.That(len(lengths) > 0, api.ErrEmpty),
		check.That(len(lengths) <= api.MaxSlots, api.ErrMany),
		check.That(len(uses) == len(lengths), api.ErrShape),
	)
	if e != api.OK { // spares the reading of lists that are too long
		return e
	}
	return check.First(
		check.Each(lengths, number.Check),
		check.Each(uses, number.Check),
		check.Each(lengths, check.FromZero),
		check.Each(uses, check.Positive),
	)
}

// Run returns the length for which all bobbins last.
func Run(lengths, uses []api.Rat) (api.Rat, api.Errno) {
	if e := CheckBobbins(lengths, uses); e != api.OK {
		return "", e
	}
	return exact.Write(runOf(lengths, uses))
}

// Waste returns what is left on the bobbins.
func Waste(lengths, uses []api.Rat) ([]api.Rat, api.Errno) {
	if e := CheckBobbins(lengths, uses); e != api.OK {
		return nil, e
	}
	used := lists.Map(lists.Map(uses, exact.Value), runOf(lengths, uses).Times) // the run may have too many digits
	waste := make([]api.Rat, len(lengths))
	for i, length := range lengths {
		left, e := exact.Write(exact.Value(length).Minus(used[i]))
		if e != api.OK {
			return nil, e
		}
		waste[i] = left
	}
	return waste, api.OK
}

// Loading returns the order of bobbins with the longest run.
func Loading(lengths, uses []api.Rat) ([]int, api.Errno) {
	e := check.First(CheckBobbins(lengths, uses), check.That(len(lengths) <= api.MaxExact, api.ErrLimit))
	if e != api.OK {
		return nil, e
	}
	ranks := ranksOf(lengths, uses)
	return leastList(len(lengths), func(beginning []int) (int, bool) {
		run := math.MaxInt
		for carrier, bobbin := range beginning {
			run = min(run, ranks[bobbin][carrier])
		}
		return -run, addsNumber(beginning)
	}), api.OK
}

func runOf(lengths, uses []api.Rat) exact.Fraction {
	lasts := make([]exact.Fraction, len(lengths))
	for i := range lasts {
		lasts[i] = lastOf(lengths[i], uses[i])
	}
	return slices.MinFunc(lasts, exact.Fraction.Compare)
}

// lastOf returns for which length of braid a bobbin lasts.
func lastOf(length, use api.Rat) exact.Fraction {
	return exact.Value(length).Over(exact.Value(use))
}

// ranksOf returns, for each bobbin on each carrier, where the length for which it lasts stands among all these lengths. With
// the ranks a search compares long numbers only once.
func ranksOf(lengths, uses []api.Rat) [][]int {
	rows := lists.Map(lengths, func(length api.Rat) []exact.Fraction {
		return lists.Map(uses, func(use api.Rat) exact.Fraction { return lastOf(length, use) })
	})
	sorted := slices.Concat(rows...)
	slices.SortFunc(sorted, exact.Fraction.Compare)
	return lists.Map(rows, func(row []exact.Fraction) []int {
		return lists.Map(row, func(last exact.Fraction) int {
			rank, _ := slices.BinarySearchFunc(sorted, last, exact.Fraction.Compare)
			return rank
		})
	})
}
