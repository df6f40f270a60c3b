package works

import (
	"slices"

	"becket/api"
	"becket/check"
)

// CheckSpread returns the greatest load of machines, and the first error of a list with the machines of orders.
func CheckSpread(times []int, machines int, a []int) (int, api.Errno) {
	e := check.First(
		checkTimes(times, machines),
		check.That(len(a) == len(times), api.ErrShape),
		check.Each(a, func(machine int) api.Errno { return check.That(machine >= 0 && machine < machines, api.ErrUnknown) }),
	)
	if e != api.OK {
		return 0, e
	}
	var loads [MaxMachines]int
	for order, machine := range a {
		loads[machine] += times[order]
	}
	return slices.Max(loads[:]), api.OK
}

// Spread returns the machines of orders with the least greatest load.
func Spread(times []int, machines int) ([]int, api.Errno) {
	if e := check.First(checkTimes(times, machines), check.That(len(times) <= api.MaxExact, api.ErrLimit)); e != api.OK {
		return nil, e
	}
	return leastList(len(times), func(beginning []int) (int, bool) {
		load, e := CheckSpread(times[:len(beginning)], machines, beginning)
		// The machines are alike: in the lexicographically first list they are numbered in the order of their first orders.
		return load, e == api.OK && goesOn(beginning)
	}), api.OK
}

// Bound returns the lower bound of the greatest load.
func Bound(times []int, machines int) (int, api.Errno) {
	if e := checkTimes(times, machines); e != api.OK {
		return 0, e
	}
	kinds := bounds{
		bySum: func(sum int) int { return roundedUp(sum, machines) },
		bySingles: func(times []int) int {
			greatest := 0
			for _, time := range times {
				greatest = max(greatest, time)
			}
			return greatest
		},
	}
	return kinds.greater(times), api.OK
}

// checkTimes returns the first error of the times of orders and of a number of machines.
func checkTimes(times []int, machines int) api.Errno {
	return check.First(
		check.That(len(times) <= MaxOrders, api.ErrMany),
		check.Each(times, checkTime),
		check.Range(machines, 1, MaxMachines),
	)
}
