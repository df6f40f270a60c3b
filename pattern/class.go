package pattern

import (
	"iter"
	"slices"

	"becket/api"
	"becket/braid"
	"becket/check"
	"becket/lists"
	"becket/number"
)

// Moved returns a placing that is moved by one repetition of the word.
func Moved(n int, w, colours []int) ([]int, api.Errno) {
	if e := check.First(CheckScheme(n, w), CheckPlacing(n, colours)); e != api.OK {
		return nil, e
	}
	perm, e := braid.Perm(n, w)
	return moved(perm, colours), e
}

// Classes returns the number of classes of placings.
func Classes(n int, w []int, colours int) (int, api.Errno) {
	if e := check.First(CheckScheme(n, w), checkColours(colours)); e != api.OK {
		return 0, e
	}
	return classes(n, w, func(cycles [][]int) int { return choices(colours, len(cycles)) }), api.OK
}

// Counted returns the number of classes of placings with some numbers of bobbins.
func Counted(n int, w, bobbins []int) (int, api.Errno) {
	if e := check.First(CheckScheme(n, w), checkBobbins(n, bobbins)); e != api.OK {
		return 0, e
	}
	return classes(n, w, func(cycles [][]int) int { return ways(cycles, bobbins) }), api.OK
}

// Listed returns the first placing of each class.
func Listed(n int, w []int, colours int) ([][]int, api.Errno) {
	if e := check.First(CheckScheme(n, w), checkColours(colours)); e != api.OK {
		return nil, e
	}
	count := choices(colours, n)
	if count > MaxListed {
		return nil, api.ErrLimit
	}
	perm, _ := braid.Perm(n, w)
	all := slices.Collect(powers(perm))
	var list [][]int
	placing := make([]int, n)
	for range count {
		if isFirst(placing, all) {
			list = append(list, placing)
		}
		placing = next(placing, colours)
	}
	return list, api.OK
}

func checkColours(colours int) api.Errno {
	return check.Range(colours, 1, api.MaxColours)
}

// checkBobbins returns the error of the numbers of bobbins for so many strands.
func checkBobbins(n int, bobbins []int) api.Errno {
	e := check.First(
		check.That(len(bobbins) <= api.MaxColours, api.ErrMany),
		check.Each(bobbins, func(count int) api.Errno { return check.Range(count, 0, api.MaxStrands) }),
	)
	if e != api.OK {
		return e
	}
	return check.That(lists.Sum(bobbins) == n, api.ErrShape)
}

// moved returns the colours that strands have after a permutation of their places.
func moved(perm, colours []int) []int {
	result := make([]int, len(colours))
	for strand, place := range perm {
		result[place] = colours[strand]
	}
	return result
}

// powers goes through the powers of a permutation, from the first one to that which leaves everything where it is.
func powers(perm []int) iter.Seq[[]int] {
	return func(yield func([]int) bool) {
		unmoved := lists.Numbers(len(perm))
		for power := perm; yield(power) && !slices.Equal(power, unmoved); {
			power, _ = number.Compose(power, perm)
		}
	}
}

// classes returns the number of classes of some placings, of which a permutation with some cycles leaves so many
// unchanged. By Burnside's lemma it is the mean of these numbers over all powers of the permutation of the word.
func classes(n int, w []int, unchanged func(cycles [][]int) int) int {
	perm, _ := braid.Perm(n, w)
	sum, count := 0, 0
	for power := range powers(perm) {
		cycles, _ := number.Cycles(power)
		sum += unchanged(cycles)
		count++
	}
	return sum / count
}

// ways returns in how many ways each cycle can have one colour, so that as many places have each one as it has bobbins.
func ways(cycles [][]int, bobbins []int) int {
	counts := map[[api.MaxColours]int]int{{}: 1} // the ways to use up so many bobbins
	for _, cycle := range cycles {
		longer := map[[api.MaxColours]int]int{}
		for used, count := range counts {
			for colour, most := range bobbins {
				more := used
				more[colour] += len(cycle)
				if more[colour] <= most {
					longer[more] += count
				}
			}
		}
		counts = longer
	}
	var all [api.MaxColours]int
	copy(all[:], bobbins)
	return counts[all]
}

// choices returns in how many ways so many things can have one of some colours each.
func choices(colours, things int) int {
	count := 1
	for range things {
		count *= colours
	}
	return count
}

// isFirst tells whether none of all powers of a permutation makes a placing one that comes before it.
func isFirst(placing []int, all [][]int) bool {
	return !slices.ContainsFunc(all, func(power []int) bool {
		return slices.Compare(moved(power, placing), placing) < 0
	})
}

// next returns the placing after another one in lexicographic order, and the first one after the last one.
func next(placing []int, colours int) []int {
	changed := slices.Clone(placing)
	for strand := len(changed) - 1; strand >= 0; strand-- {
		changed[strand] = (changed[strand] + 1) % colours
		if changed[strand] > 0 {
			break
		}
	}
	return changed
}
