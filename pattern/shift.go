package pattern

import (
	"cmp"
	"iter"
	"slices"

	"becket/api"
	"becket/check"
	"becket/lists"
)

// Shifted returns a picture that is shifted.
func Shifted(p [][]int, down, right int) ([][]int, api.Errno) {
	if e := CheckPicture(p); e != api.OK {
		return nil, e
	}
	return shifted(p, down, right), api.OK
}

// Periods returns both periods of a picture.
func Periods(p [][]int) ([2]int, api.Errno) {
	if e := CheckPicture(p); e != api.OK {
		return [2]int{}, e
	}
	down := period(p, func(by int) [][]int { return shifted(p, by, 0) })
	right := period(p, func(by int) [][]int { return shifted(p, 0, by) })
	return [2]int{down, right}, api.OK
}

// Shifts returns all shifts by which a picture stays the same.
func Shifts(p [][]int) ([][2]int, api.Errno) {
	if e := CheckPicture(p); e != api.OK {
		return nil, e
	}
	var list [][2]int
	for by, q := range shifts(p) {
		if order(p, q) == 0 {
			list = append(list, by)
		}
	}
	return list, api.OK
}

// Normal returns the normal form of a picture.
func Normal(p [][]int) ([][]int, api.Errno) {
	if e := CheckPicture(p); e != api.OK {
		return nil, e
	}
	return normal(p), api.OK
}

// Same reports whether a picture is another one, shifted.
func Same(p, q [][]int) (bool, api.Errno) {
	if e := check.First(CheckPicture(p), CheckPicture(q)); e != api.OK {
		return false, e
	}
	return order(normal(p), normal(q)) == 0, api.OK
}

// Slope returns the slope of a picture.
func Slope(p [][]int) (int, api.Errno) {
	if e := CheckPicture(p); e != api.OK {
		return 0, e
	}
search:
	for slope := range p[0] {
		for above, row := range p[1:] {
			if !slices.Equal(row, lists.Rotated(p[above], slope)) {
				continue search
			}
		}
		return slope, api.OK
	}
	return 0, api.ErrNone
}

// Cells returns the number of cells of each colour.
func Cells(p [][]int) ([]int, api.Errno) {
	if e := CheckPicture(p); e != api.OK {
		return nil, e
	}
	var counts [api.MaxColours]int
	greatest := 0
	for _, colour := range cells(p) {
		counts[colour]++
		greatest = max(greatest, colour)
	}
	return counts[:greatest+1], api.OK
}

// shifted returns a picture of its own that is shifted by any integers.
func shifted(p [][]int, down, right int) [][]int {
	return lists.Rotated(lists.Map(p, func(row []int) []int { return lists.Rotated(row, right) }), down)
}

// shifts goes through all pictures into which a picture can be shifted, in the lexicographic order of the shifts, first
// the picture itself.
func shifts(p [][]int) iter.Seq2[[2]int, [][]int] {
	return func(yield func([2]int, [][]int) bool) {
		for by := range cells(p) {
			if !yield(by, shifted(p, by[0], by[1])) {
				return
			}
		}
	}
}

// period returns the least number above 0 by which a picture can be shifted in one way, and stays the same.
func period(p [][]int, shift func(by int) [][]int) int {
	by := 1
	for order(p, shift(by)) != 0 {
		by++
	}
	return by
}

func normal(p [][]int) [][]int {
	first := shifted(p, 0, 0) // for a result shares no memory with an argument
	for _, q := range shifts(p) {
		if order(q, first) < 0 {
			first = q
		}
	}
	return first
}

// order compares two pictures cell by cell.
func order[T cmp.Ordered](p, q [][]T) int {
	return slices.CompareFunc(p, q, slices.Compare)
}
