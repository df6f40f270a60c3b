package pattern_test

import (
	"slices"
)

// The model follows each strand by its position, and each cell by its row and its column.

// abs returns a letter without its sign.
func abs(letter int) int {
	return max(letter, -letter)
}

// endsIn returns the position at which each strand ends, from 0 on.
func endsIn(s scheme) []int {
	ends := make([]int, s.n)
	for strand := range s.n {
		at := strand + 1
		for _, letter := range s.w {
			switch at {
			case abs(letter):
				at++
			case abs(letter) + 1:
				at--
			}
		}
		ends[strand] = at - 1
	}
	return ends
}

// seenIn returns the strands that pass over, letter by letter.
func seenIn(s scheme, rows int) [][]int {
	at := map[int]int{} // the position of each strand
	for strand := range s.n {
		at[strand] = strand + 1
	}
	var picture [][]int
	for range rows {
		var row []int
		for _, letter := range s.w {
			left, right := -1, -1
			for strand := range s.n {
				switch at[strand] {
				case abs(letter):
					left = strand
				case abs(letter) + 1:
					right = strand
				}
			}
			if letter > 0 {
				row = append(row, left)
			} else {
				row = append(row, right)
			}
			at[left], at[right] = at[right], at[left]
		}
		picture = append(picture, row)
	}
	return picture
}

// paintIn returns the colours of strands that are seen.
func paintIn(s scheme, colours []int, rows int) [][]int {
	picture := seenIn(s, rows)
	for _, row := range picture {
		for c, strand := range row {
			row[c] = colours[strand]
		}
	}
	return picture
}

// repeatIn returns the least distance above 0 at which all rows are the same; there are enough rows for any permutation
// of 12 strands, for which the greatest period is 60.
func repeatIn(s scheme, colours []int) int {
	rows := paintIn(s, colours, 130)
	for distance := 1; ; distance++ {
		if slices.EqualFunc(rows[distance:], rows[:len(rows)-distance], slices.Equal) {
			return distance
		}
	}
}

// movedIn returns the colours after a repetition: each position has that of the strand that was there before.
func movedIn(s scheme, colours []int) []int {
	moved := make([]int, s.n)
	ends := endsIn(s)
	for position := range s.n {
		moved[position] = colours[slices.Index(ends, position)]
	}
	return moved
}

// modulo returns the remainder from 0 on.
func modulo(a, m int) int {
	a %= m
	if a < 0 {
		a += m
	}
	return a
}

// shiftedIn returns the picture that is shifted, by small numbers.
func shiftedIn(p [][]int, down, right int) [][]int {
	var list [][]int
	for r := range p {
		var row []int
		for c := range p[r] {
			row = append(row, p[modulo(r-down, len(p))][modulo(c-right, len(p[0]))])
		}
		list = append(list, row)
	}
	return list
}

func equalRows(p, q [][]int) bool {
	return slices.EqualFunc(p, q, slices.Equal)
}

// shiftsIn returns the shifts by which a picture becomes another one.
func shiftsIn(p, q [][]int) [][2]int {
	var list [][2]int
	for down := range p {
		for right := range p[0] {
			if equalRows(shiftedIn(p, down, right), q) {
				list = append(list, [2]int{down, right})
			}
		}
	}
	return list
}

// placingsOf returns all placings of so many strands with so many colours, in lexicographic order.
func placingsOf(n, colours int) [][]int {
	list := [][]int{nil}
	for range n {
		var longer [][]int
		for _, placing := range list {
			for colour := range colours {
				longer = append(longer, append(slices.Clone(placing), colour))
			}
		}
		list = longer
	}
	return list
}

// coloursOf returns 1 more than the greatest colour of a picture.
func coloursOf(p [][]int) int {
	return slices.Max(slices.Concat(p...)) + 1
}

// placingsIn tries all placings.
func placingsIn(s scheme, p [][]int) [][]int {
	shown := slices.Concat(seenIn(s, len(p))...)
	var list [][]int
	for _, placing := range placingsOf(s.n, coloursOf(p)) {
		needless := false
		for strand, colour := range placing {
			needless = needless || colour > 0 && !slices.Contains(shown, strand)
		}
		if !needless && len(shiftsIn(p, paintIn(s, placing, len(p)))) > 0 {
			list = append(list, placing)
		}
	}
	return list
}

// faultsIn returns the number of cells in which pictures differ.
func faultsIn(p, q [][]int) int {
	faults := 0
	for r := range p {
		for c := range p[r] {
			if p[r][c] != q[r][c] {
				faults++
			}
		}
	}
	return faults
}

// closestIn returns the first one of all placings with the fewest faults.
func closestIn(s scheme, p [][]int) ([]int, int) {
	var best []int
	fewest := 24*24 + 1
	for _, placing := range placingsOf(s.n, coloursOf(p)) {
		if faults := faultsIn(p, paintIn(s, placing, len(p))); faults < fewest {
			best, fewest = placing, faults
		}
	}
	return best, fewest
}

// clashIn tries all pairs of cells: the second cell is the first one with an earlier cell of the strand in another colour.
func clashIn(s scheme, p [][]int) ([2][2]int, bool) {
	strands := slices.Concat(seenIn(s, len(p))...)
	colours := slices.Concat(p...)
	cell := func(i int) [2]int { return [2]int{i / len(s.w), i % len(s.w)} }
	for second := range strands {
		for first := range second {
			if strands[first] == strands[second] && colours[first] != colours[second] {
				return [2][2]int{cell(slices.Index(strands, strands[second])), cell(second)}, true
			}
		}
	}
	return [2][2]int{}, false
}

// classIn returns the first placing of the class of a placing.
func classIn(s scheme, placing []int) []int {
	first := placing
	for other := movedIn(s, placing); !slices.Equal(other, placing); other = movedIn(s, other) {
		if slices.Compare(other, first) < 0 {
			first = other
		}
	}
	return first
}

// listedIn returns the first placing of each class.
func listedIn(s scheme, colours int) [][]int {
	var list [][]int
	for _, placing := range placingsOf(s.n, colours) {
		if slices.Equal(classIn(s, placing), placing) {
			list = append(list, placing)
		}
	}
	return list
}

// bobbinsOf returns how many strands have each of so many colours.
func bobbinsOf(placing []int, colours int) []int {
	counts := make([]int, colours)
	for _, colour := range placing {
		counts[colour]++
	}
	return counts
}
