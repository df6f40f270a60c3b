package number

import (
	"iter"

	"becket/api"
	"becket/exact"
)

// CheckPerm returns the first error of a permutation, or OK.
func CheckPerm(p []int) api.Errno {
	if len(p) > api.MaxList {
		return api.ErrMany
	}
	counts := map[int]int{}
	for _, place := range p {
		counts[place]++
	}
	for place := range len(p) {
		if counts[place] != 1 {
			return api.ErrPerm
		}
	}
	return api.OK
}

// Compose returns the permutation that does first p, then q.
func Compose(p, q []int) ([]int, api.Errno) {
	if e := firstError(CheckPerm(p), CheckPerm(q)); e != api.OK {
		return nil, e
	}
	if len(p) != len(q) {
		return nil, api.ErrShape
	}
	composed := make([]int, len(p))
	for i, place := range p {
		composed[i] = q[place]
	}
	return composed, api.OK
}

// Inverse returns the inverse of a permutation.
func Inverse(p []int) ([]int, api.Errno) {
	return Power(p, -1)
}

// Cycles returns the cycles of a permutation.
func Cycles(p []int) ([][]int, api.Errno) {
	if e := CheckPerm(p); e != api.OK {
		return nil, e
	}
	return cyclesOf(p), api.OK
}

// Period returns the period of a permutation.
func Period(p []int) (api.Rat, api.Errno) {
	if e := CheckPerm(p); e != api.OK {
		return "", e
	}
	period := exact.IntegerOf(1)
	for _, cycle := range cyclesOf(p) {
		period = exact.CommonMultiple(period, exact.IntegerOf(len(cycle)))
	}
	return exact.Write(exact.Whole(period))
}

// Power returns a power of a permutation.
func Power(p []int, k int) ([]int, api.Errno) {
	if e := CheckPerm(p); e != api.OK {
		return nil, e
	}
	power := make([]int, len(p))
	for _, cycle := range cyclesOf(p) {
		length := len(cycle)
		steps := (k%length + length) % length // the remainder is reduced first: k itself may be the least int
		for i, place := range cycle {
			power[place] = cycle[(i+steps)%length]
		}
	}
	return power, api.OK
}

func cyclesOf(p []int) [][]int {
	var cycles [][]int
	visited := make([]bool, len(p))
	for start := range p {
		if visited[start] {
			continue
		}
		var cycle []int
		for place := range placesFrom(p, start) {
			visited[place] = true
			cycle = append(cycle, place)
		}
		cycles = append(cycles, cycle)
	}
	return cycles
}

// placesFrom goes once round the cycle of a place.
func placesFrom(p []int, start int) iter.Seq[int] {
	return func(yield func(int) bool) {
		for place := start; yield(place); {
			place = p[place]
			if place == start {
				return
			}
		}
	}
}
