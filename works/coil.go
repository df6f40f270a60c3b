package works

import (
	"becket/api"
	"becket/check"
)

// CheckPieces returns the first error of a coil and of pieces, or OK.
func CheckPieces(coil int, pieces []int) api.Errno {
	return check.First(
		check.Range(coil, 1, api.MaxNumber),
		check.That(len(pieces) <= MaxPieces, api.ErrMany),
		check.Each(pieces, func(piece int) api.Errno {
			return check.First(check.Range(piece, 1, api.MaxNumber), check.That(piece <= coil, api.ErrLarge))
		}),
	)
}

// CheckCut returns the number of coils of a way of cutting, and its first error.
func CheckCut(coil int, pieces, cut []int) (int, api.Errno) {
	if e := check.First(CheckPieces(coil, pieces), check.That(len(cut) == len(pieces), api.ErrShape)); e != api.OK {
		return 0, e
	}
	coils := map[int]int{} // what is cut from each coil
	for i, piece := range pieces {
		number := cut[i]
		if number < 0 || number > len(coils) {
			return 0, api.ErrOrder
		}
		coils[number] += piece
		if coils[number] > coil {
			return 0, api.ErrLoad
		}
	}
	return len(coils), api.OK
}

// Cut returns a way of cutting from the fewest coils.
func Cut(coil int, pieces []int) ([]int, api.Errno) {
	if e := check.First(CheckPieces(coil, pieces), check.That(len(pieces) <= api.MaxExact, api.ErrLimit)); e != api.OK {
		return nil, e
	}
	return leastList(len(pieces), func(beginning []int) (int, bool) {
		coils, e := CheckCut(coil, pieces[:len(beginning)], beginning)
		return coils, e == api.OK
	}), api.OK
}

// FirstFit returns a way of cutting, piece by piece.
func FirstFit(coil int, pieces []int) ([]int, api.Errno) {
	if e := CheckPieces(coil, pieces); e != api.OK {
		return nil, e
	}
	coils := map[int]int{} // what is cut from each coil
	cut := make([]int, len(pieces))
	for i, piece := range pieces {
		for coils[cut[i]]+piece > coil {
			cut[i]++
		}
		coils[cut[i]] += piece
	}
	return cut, api.OK
}

// Coils returns the lower bound of the number of coils.
func Coils(coil int, pieces []int) (int, api.Errno) {
	if e := CheckPieces(coil, pieces); e != api.OK {
		return 0, e
	}
	kinds := bounds{
		bySum: func(sum int) int { return roundedUp(sum, coil) },
		bySingles: func(pieces []int) int {
			long := 0
			for _, piece := range pieces {
				if 2*piece > coil { // no two of these are cut from one coil
					long++
				}
			}
			return long
		},
	}
	return kinds.greater(pieces), api.OK
}
