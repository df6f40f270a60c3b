package works

import (
	"iter"
	"slices"

	"becket/api"
	"becket/check"
	"becket/lists"
	"becket/number"
)

// Shop is orders on one machine: their times, the set-up times of the first one, and those from each order to each other one.
type Shop struct {
	Times []int
	First []int
	Setup [][]int
}

// CheckShop returns the first error of a shop, or OK.
func CheckShop(s Shop) api.Errno {
	orders := len(s.Times)
	e := check.First(
		check.That(orders > 0, api.ErrEmpty),
		check.That(orders <= MaxOrders, api.ErrMany),
		check.That(len(s.First) == orders && len(s.Setup) == orders, api.ErrShape),
		check.Each(s.Setup, func(row []int) api.Errno { return check.That(len(row) == orders, api.ErrShape) }),
	)
	if e != api.OK { // the rows may not have a place for each order
		return e
	}
	return check.First(
		check.Each(s.Times, checkTime),
		check.Each(s.First, checkTime),
		check.Each(s.Setup, func(row []int) api.Errno { return check.Each(row, checkTime) }),
		check.Each(lists.Numbers(orders), func(order int) api.Errno { return check.Range(s.Setup[order][order], 0, 0) }),
	)
}

// Makespan returns the time of a sequence of orders.
func Makespan(s Shop, order []int) (int, api.Errno) {
	if e := checkSequence(s, order); e != api.OK {
		return 0, e
	}
	return timeOf(s, order), api.OK
}

// Sequence returns the best sequence of orders.
func Sequence(s Shop) ([]int, api.Errno) {
	if e := check.First(CheckShop(s), check.That(len(s.Times) <= api.MaxExact, api.ErrLimit)); e != api.OK {
		return nil, e
	}
	return leastList(len(s.Times), func(beginning []int) (int, bool) {
		return timeOf(s, beginning), addsNumber(beginning)
	}), api.OK
}

// Least returns the lower bound of the time of all orders.
func Least(s Shop) (int, api.Errno) {
	if e := CheckShop(s); e != api.OK {
		return 0, e
	}
	setUps := slices.Clone(s.First)
	for before, row := range s.Setup {
		for order, setUp := range row {
			if order != before {
				setUps[order] = min(setUps[order], setUp)
			}
		}
	}
	return lists.Sum(s.Times) + lists.Sum(setUps), api.OK
}

// Improve returns a sequence that no exchange of two orders improves.
func Improve(s Shop, order []int) ([]int, api.Errno) {
	if e := checkSequence(s, order); e != api.OK {
		return nil, e
	}
	improved := slices.Clone(order)
	for {
		next, shorter := bestExchange(s, improved)
		if !shorter {
			return improved, api.OK
		}
		improved = next
	}
}

// checkTime returns the error of a time, or of a set-up time.
func checkTime(time int) api.Errno {
	return check.Range(time, 0, mostTime)
}

// checkSequence returns the first error of a shop and of a sequence of its orders.
func checkSequence(s Shop, order []int) api.Errno {
	return check.First(CheckShop(s), check.That(len(order) == len(s.Times), api.ErrShape), number.CheckPerm(order))
}

// timeOf returns the time of all orders, with the set-up times of a sequence of some of them.
func timeOf(s Shop, order []int) int {
	time := lists.Sum(s.Times)
	for place := range order {
		time += setUpAt(s, order, place)
	}
	return time
}

// setUpAt returns the set-up time at a place of a sequence.
func setUpAt(s Shop, order []int, place int) int {
	if place == 0 {
		return s.First[order[0]]
	}
	return s.Setup[order[place-1]][order[place]]
}

// bestExchange returns a sequence after the best exchange, and whether this is shorter than it is without one.
func bestExchange(s Shop, order []int) ([]int, bool) {
	var best []int
	least := timeOf(s, order)
search:
	for exchanged := range exchanges(order) {
		time := lists.Sum(s.Times)
		for place := range exchanged {
			time += setUpAt(s, exchanged, place)
			if time >= least { // no set-up time is below 0, so that the sequence gets no shorter
				continue search
			}
		}
		best, least = exchanged, time
	}
	return best, best != nil
}

// exchanges goes through copies of a sequence after each exchange, by the first places and then by the second ones.
func exchanges(order []int) iter.Seq[[]int] {
	return func(yield func([]int) bool) {
		for first := range order {
			for second := first + 1; second < len(order); second++ {
				exchanged := slices.Clone(order)
				exchanged[first], exchanged[second] = exchanged[second], exchanged[first]
				if !yield(exchanged) {
					return
				}
			}
		}
	}
}
