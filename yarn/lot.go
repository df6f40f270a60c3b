package yarn

import (
	"becket/api"
	"becket/check"
	"becket/lists"
)

// Free returns what is free of a lot.
func Free(s State, lot string) (int, api.Errno) {
	if e := CheckState(s); e != api.OK {
		return 0, e
	}
	found, known := lotNamed(s, lot)
	if !known {
		return 0, api.ErrUnknown
	}
	return freeOf(s, found), api.OK
}

// Stock returns the stock of a yarn and a dye, and what is free of it.
func Stock(s State, yarn, dye string) (int, int, api.Errno) {
	if e := check.First(CheckState(s), check.Name(yarn), checkDye(dye)); e != api.OK {
		return 0, 0, e
	}
	stock, free := 0, 0
	for _, lot := range s.Lots {
		if wareOf(lot) == (ware{yarn, dye}) {
			stock += lot.Stock
			free += freeOf(s, lot)
		}
	}
	return stock, free, api.OK
}

// Match returns the fewest lots that have an amount.
func Match(s State, yarn, dye string, amount int) ([]int, api.Errno) {
	e := check.First(CheckState(s), check.Name(yarn), checkDye(dye), check.Range(amount, 0, api.MaxNumber))
	if e != api.OK {
		return nil, e
	}
	places, free, all := lotsWithFree(s, ware{yarn, dye})
	if len(places) > api.MaxExact {
		return nil, api.ErrLimit
	}
	if all < amount {
		return nil, api.ErrStock
	}
	return pick(places, fewest(free, amount)), api.OK
}

// lotsWithFree returns the places of the lots of a ware of which something is free, how much, and how much together.
func lotsWithFree(s State, w ware) (places, free []int, all int) {
	for place, lot := range s.Lots {
		if amount := freeOf(s, lot); wareOf(lot) == w && amount > 0 {
			places, free, all = append(places, place), append(free, amount), all+amount
		}
	}
	return places, free, all
}

// fewest returns the least elements that add up to an amount, by their places, of several lists the lexicographically
// first one; all elements together are at least the amount. A set is a number whose bits say what is left out, the
// highest one for the first element: so of sets of one size the lexicographically first one is the least number.
func fewest(amounts []int, amount int) []int {
	var chosen []int
search:
	for size := range len(amounts) + 1 {
		for leftOut := range 1 << len(amounts) {
			chosen = members(leftOut, len(amounts))
			if len(chosen) == size && lists.Sum(pick(amounts, chosen)) >= amount {
				break search
			}
		}
	}
	return chosen
}

// members returns the elements that a set does not leave out.
func members(leftOut, elements int) []int {
	var list []int
	for i := range elements {
		if leftOut>>(elements-1-i)&1 == 0 {
			list = append(list, i)
		}
	}
	return list
}

// pick returns the elements of a list at some places.
func pick(list, places []int) []int {
	picked := make([]int, len(places))
	for i, place := range places {
		picked[i] = list[place]
	}
	return picked
}
