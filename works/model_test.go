package works_test

import (
	"cmp"
	"math/big"
	"slices"

	"becket/api"
	"becket/works"
)

// The model lists everything there is, computes with math/big as the chapter's definitions tell it, and takes the best.

// allTrains returns all trains of so many wheels, in no particular order.
func allTrains(wheels int) []works.Train {
	var list []works.Train
	for a := wheels - 1; a >= 0; a-- {
		for b := wheels - 1; b >= 0; b-- {
			if a == b {
				continue
			}
			for c := range wheels {
				for d := range wheels {
					if a < c && b < d && a != d && c != b && c != d {
						list = append(list, train([]int{a, c}, []int{b, d}))
					}
				}
			}
			list = append(list, train([]int{a}, []int{b}))
		}
	}
	return list
}

func ratioIn(w []int, t works.Train) *big.Rat {
	number := ratio(1, 1)
	for i := range t.Drivers {
		number = times(number, ratio(w[t.Drivers[i]], w[t.Driven[i]]))
	}
	return number
}

// nearestIn returns the nearest train of at least two wheels.
func nearestIn(w []int, x *big.Rat) works.Train {
	return slices.MinFunc(allTrains(len(w)), func(a, b works.Train) int {
		return cmp.Or(
			distance(ratioIn(w, a), x).Cmp(distance(ratioIn(w, b), x)),
			cmp.Compare(len(a.Drivers), len(b.Drivers)),
			slices.Compare(a.Drivers, b.Drivers),
			slices.Compare(a.Driven, b.Driven),
		)
	})
}

// floorOf returns the integer part of a number, downwards.
func floorOf(x *big.Rat) *big.Int {
	return new(big.Int).Div(x.Num(), x.Denom()) // of the Euclidean division, as the denominator is above 0
}

// convergentsIn returns the convergents of a number, each of them from its last term back to the first one.
func convergentsIn(x *big.Rat) []api.Rat {
	var terms []*big.Rat
	var list []api.Rat
	for {
		term := new(big.Rat).SetInt(floorOf(x))
		terms = append(terms, term)
		convergent := term
		for i := len(terms) - 2; i >= 0; i-- {
			convergent = plus(terms[i], over(ratio(1, 1), convergent))
		}
		list = append(list, rat(convergent))
		if x = minus(x, term); x.Sign() == 0 {
			return list
		}
		x = over(ratio(1, 1), x)
	}
}

func runIn(x wound) *big.Rat {
	least := over(value(x.lengths[0]), value(x.uses[0]))
	for i := range x.lengths {
		if last := over(value(x.lengths[i]), value(x.uses[i])); last.Cmp(least) < 0 {
			least = last
		}
	}
	return least
}

func wasteIn(x wound) []*big.Rat {
	var list []*big.Rat
	for i, length := range x.lengths {
		list = append(list, minus(value(length), times(runIn(x), value(x.uses[i]))))
	}
	return list
}

// onCarriers returns the bobbins of a loading, in the order of the carriers.
func onCarriers(x wound, loading []int) wound {
	loaded := wound{uses: x.uses}
	for _, bobbin := range loading {
		loaded.lengths = append(loaded.lengths, x.lengths[bobbin])
	}
	return loaded
}

// permutations returns all permutations of so many elements, in no particular order.
func permutations(n int) [][]int {
	if n == 0 {
		return [][]int{nil}
	}
	var list [][]int
	for _, shorter := range permutations(n - 1) {
		for place := range n {
			list = append(list, slices.Insert(slices.Clone(shorter), place, n-1))
		}
	}
	return list
}

// bestOf returns the lexicographically first one of the lists with the least cost.
func bestOf[T any](list [][]int, costOf func([]int) T, compare func(a, b T) int) []int {
	var best []int
	var least T
	for i, candidate := range list {
		cost := costOf(candidate)
		if i == 0 || cmp.Or(compare(cost, least), slices.Compare(candidate, best)) < 0 {
			best, least = candidate, cost
		}
	}
	return best
}

// loadingIn returns the best loading.
func loadingIn(x wound) []int {
	return bestOf(permutations(len(x.lengths)), func(loading []int) *big.Rat {
		return runIn(onCarriers(x, loading))
	}, func(a, b *big.Rat) int { return b.Cmp(a) })
}

// divisions returns all lists of so many numbers in which each number is at most 1 above the greatest one before it.
func divisions(length int) [][]int {
	if length == 0 {
		return [][]int{nil}
	}
	var list [][]int
	for _, shorter := range divisions(length - 1) {
		for next := range 2 + slices.Max(append([]int{-1}, shorter...)) {
			list = append(list, append(slices.Clone(shorter), next))
		}
	}
	return list
}

// allLists returns all lists of so many numbers from 0 on below another one.
func allLists(length, below int) [][]int {
	list := [][]int{nil}
	for range length {
		var longer [][]int
		for _, start := range list {
			for x := range below {
				longer = append(longer, append(slices.Clone(start), x))
			}
		}
		list = longer
	}
	return list
}

// sums returns the sum of the amounts with each number.
func sums(amounts, numbers []int) map[int]int {
	loads := map[int]int{}
	for i, number := range numbers {
		loads[number] += amounts[i]
	}
	return loads
}

func fits(x cutting, cut []int) bool {
	for _, load := range sums(x.pieces, cut) {
		if load > x.coil {
			return false
		}
	}
	return true
}

// cutIn returns the lexicographically first way of cutting from the fewest coils.
func cutIn(x cutting) []int {
	ways := slices.DeleteFunc(divisions(len(x.pieces)), func(cut []int) bool { return !fits(x, cut) })
	return bestOf(ways, func(cut []int) int { return len(sums(x.pieces, cut)) }, cmp.Compare[int])
}

// firstFitIn looks for the first coil that stays within its length, piece by piece.
func firstFitIn(x cutting) []int {
	var cut []int
	for i := range x.pieces {
		longer := append(cut, 0)
		for !fits(cutting{coil: x.coil, pieces: x.pieces[:i+1]}, longer) {
			longer[i]++
		}
		cut = longer
	}
	return cut
}

// coilsIn returns the lower bound of the number of coils.
func coilsIn(x cutting) int {
	sum, long := 0, 0
	for _, piece := range x.pieces {
		sum += piece
		if piece > x.coil-piece {
			long++
		}
	}
	least := 0
	for least*x.coil < sum { // the sum divided, rounded up
		least++
	}
	return max(least, long)
}

func spanIn(s works.Shop, order []int) int {
	time := s.First[order[0]]
	for place, current := range order {
		time += s.Times[current]
		if place+1 < len(order) {
			time += s.Setup[current][order[place+1]]
		}
	}
	return time
}

func sequenceIn(s works.Shop) []int {
	return bestOf(permutations(len(s.Times)), func(order []int) int { return spanIn(s, order) }, cmp.Compare[int])
}

// leastIn returns the lower bound of the time of a shop.
func leastIn(s works.Shop) int {
	time := 0
	for order := range s.Times {
		setUps := []int{s.First[order]}
		for before := range s.Times {
			if before != order {
				setUps = append(setUps, s.Setup[before][order])
			}
		}
		time += s.Times[order] + slices.Min(setUps)
	}
	return time
}

// exchanged returns a copy of a sequence with two orders exchanged.
func exchanged(order []int, a, b int) []int {
	return with(with(order, a, order[b]), b, order[a])
}

// improvedIn makes the best exchange as long as it makes the sequence shorter.
func improvedIn(s works.Shop, order []int) []int {
	type exchange struct{ time, first, second int }
	for {
		var list []exchange
		for a := range order {
			for b := range a {
				list = append(list, exchange{spanIn(s, exchanged(order, b, a)), b, a})
			}
		}
		if len(list) == 0 {
			return order
		}
		best := slices.MinFunc(list, func(x, y exchange) int {
			return cmp.Or(cmp.Compare(x.time, y.time), cmp.Compare(x.first, y.first), cmp.Compare(x.second, y.second))
		})
		if best.time >= spanIn(s, order) {
			return order
		}
		order = exchanged(order, best.first, best.second)
	}
}

func loadIn(x loaded, a []int) int {
	greatest := 0
	for _, load := range sums(x.times, a) {
		greatest = max(greatest, load)
	}
	return greatest
}

// spreadIn returns the best list of machines, of really all lists.
func spreadIn(x loaded) []int {
	return bestOf(allLists(len(x.times), x.machines), func(a []int) int { return loadIn(x, a) }, cmp.Compare[int])
}

// boundIn returns the lower bound of the greatest load.
func boundIn(x loaded) int {
	sum, bound := 0, 0
	for _, time := range x.times {
		sum += time
		bound = max(bound, time)
	}
	for bound*x.machines < sum {
		bound++
	}
	return bound
}
