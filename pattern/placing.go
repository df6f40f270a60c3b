package pattern

import (
	"slices"

	"becket/api"
	"becket/check"
)

// Placings returns all placings that make a picture, or one of its shifts.
func Placings(n int, w []int, p [][]int) ([][]int, api.Errno) {
	if e := checkFit(n, w, p); e != api.OK {
		return nil, e
	}
	var list [][]int
	for _, q := range shifts(p) {
		if placing, faults := closest(n, w, q); faults == 0 {
			list = append(list, placing)
		}
	}
	slices.SortFunc(list, slices.Compare)
	list = slices.CompactFunc(list, slices.Equal)
	return list, check.That(len(list) > 0, api.ErrNone)
}

// Clash returns the first two cells that prove that no placing makes a picture.
func Clash(n int, w []int, p [][]int) ([2][2]int, api.Errno) {
	if e := checkFit(n, w, p); e != api.OK {
		return [2][2]int{}, e
	}
	strands := seen(n, w, len(p))
	firsts := map[int][2]int{} // the first cell of each strand that was seen
	for cell, colour := range cells(p) {
		strand := in(strands, cell)
		first, before := firsts[strand]
		switch {
		case !before:
			firsts[strand] = cell
		case in(p, first) != colour:
			return [2][2]int{first, cell}, api.OK
		}
	}
	return [2][2]int{}, api.ErrNone
}

// CheckClash returns OK for two cells that prove it.
func CheckClash(n int, w []int, p [][]int, cells [2][2]int) api.Errno {
	if e := check.First(checkFit(n, w, p), checkCell(p, cells[0]), checkCell(p, cells[1])); e != api.OK {
		return e
	}
	strands := seen(n, w, len(p))
	return check.First(
		check.That(in(strands, cells[0]) == in(strands, cells[1]), api.ErrProof),
		check.That(in(p, cells[0]) != in(p, cells[1]), api.ErrProof),
	)
}

// Closest returns the closest placing to a picture, and the number of its faults.
func Closest(n int, w []int, p [][]int) ([]int, int, api.Errno) {
	if e := checkFit(n, w, p); e != api.OK {
		return nil, 0, e
	}
	placing, faults := closest(n, w, p)
	return placing, faults, api.OK
}

// checkFit returns the first error of a scheme and a picture that has to have as many columns as the word has letters.
func checkFit(n int, w []int, p [][]int) api.Errno {
	if e := check.First(CheckScheme(n, w), CheckPicture(p)); e != api.OK {
		return e
	}
	return check.That(len(p[0]) == len(w), api.ErrShape)
}

// checkCell returns the error of a cell that has to be in a picture.
func checkCell(p [][]int, wanted [2]int) api.Errno {
	for cell := range cells(p) {
		if cell == wanted {
			return api.OK
		}
	}
	return api.ErrRange
}

// closest returns the closest placing to a picture, and the number of its faults.
func closest(n int, w []int, p [][]int) ([]int, int) {
	strands := seen(n, w, len(p))
	counts := make([][api.MaxColours]int, n) // the cells of each strand with each colour
	for cell, colour := range cells(p) {
		counts[in(strands, cell)][colour]++
	}
	placing, faults := make([]int, n), 0
	for strand, shown := range counts {
		for colour, count := range shown {
			faults += count
			if count > shown[placing[strand]] {
				placing[strand] = colour
			}
		}
		faults -= shown[placing[strand]]
	}
	return placing, faults
}
