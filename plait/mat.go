package plait

import (
	"strings"

	"becket/api"
	"becket/check"
	"becket/lists"
	"becket/number"
)

// MaxMat is the greatest number of leads, or bights, of a mat.
const MaxMat = 100

// The crossings in which the strand that rises to the right is above, or the one that rises to the left.
const (
	risesToRight = "/"
	risesToLeft  = `\`
)

// Strands returns the number of strands of a mat.
func Strands(leads, bights int) (int, api.Errno) {
	routes, e := routesOf(leads, bights)
	return len(routes), e
}

// Route returns the bights that a strand of a mat visits.
func Route(leads, bights, strand int) ([]int, api.Errno) {
	routes, e := routesOf(leads, bights)
	if e != api.OK {
		return nil, e
	}
	if strand < 0 || strand >= len(routes) {
		return nil, api.ErrUnknown
	}
	return routes[strand], api.OK
}

// Mat returns the crossings of a mat, which alternate, row by row.
func Mat(leads, bights int) ([]string, api.Errno) {
	if e := checkMat(leads, bights); e != api.OK {
		return nil, e
	}
	return lists.Map(lists.Numbers(leads-1), func(row int) string {
		if row%2 == 0 { // the rows are counted from 1 on, so that this one is odd
			return strings.Repeat(risesToRight, bights)
		}
		return strings.Repeat(risesToLeft, bights)
	}), api.OK
}

// Head returns the braid word whose closure is the mat.
func Head(leads, bights int) ([]int, api.Errno) {
	e := check.First(
		checkMat(leads, bights),
		check.That(leads <= api.MaxStrands, api.ErrMany),
		check.That((leads-1)*bights <= api.MaxWord, api.ErrMany),
	)
	if e != api.OK {
		return nil, e
	}
	var word []int
	for range bights {
		for letter := 1; letter < leads; letter++ {
			if letter%2 == 1 {
				word = append(word, letter)
			} else {
				word = append(word, -letter)
			}
		}
	}
	return word, api.OK
}

func checkMat(leads, bights int) api.Errno {
	return check.First(check.Range(leads, 2, MaxMat), check.Range(bights, 2, MaxMat))
}

// routesOf returns the routes of all strands of a mat. They are the cycles of the permutation that takes each bight to
// the one to which its strand comes, and there are as many as the greatest common divisor of leads and bights.
func routesOf(leads, bights int) ([][]int, api.Errno) {
	if e := checkMat(leads, bights); e != api.OK {
		return nil, e
	}
	return number.Cycles(lists.Map(lists.Numbers(bights), func(bight int) int { return (bight + leads) % bights }))
}
