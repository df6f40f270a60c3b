package number

import (
	"slices"

	"becket/api"
)

// ring is what numbers need for elimination; exact divides where there is no remainder.
type ring[T any] interface {
	times(T) T
	minus(T) T
	exact(T) T
	isZero() bool
}

// pivot is the place of a number by which its column is cleared in all other rows.
type pivot struct {
	row, column int
}

// dependence has multipliers for which the sum of some rows has zeros alone. They may be divided by any number: unit
// makes one of them -1, and scale makes all of them sums of products of the numbers in the rows.
type dependence struct {
	multipliers []integer
	unit, scale integer
}

// Solve returns the only solution of equations.
func Solve(m [][]api.Rat, b []api.Rat) ([]api.Rat, api.Errno) {
	rows, list, e := readEquations(m, b)
	if e != api.OK {
		return nil, e
	}
	unknowns := len(rows[0])
	extended := make([][]integer, len(rows))
	for i, row := range rows {
		extended[i], _ = withoutFractions(append(row, list[i]))
	}
	pivots, divisor := eliminate(extended, unknowns, integerOf(1))
	if len(pivots) < unknowns || contradicts(extended, pivots, unknowns) {
		return nil, api.ErrSingular
	}
	solution := make([]integer, unknowns)
	for _, p := range pivots {
		solution[p.column] = extended[p.row][unknowns]
	}
	return writeQuotients(solution, divisor)
}

// Refute returns multipliers that refute equations.
func Refute(m [][]api.Rat, b []api.Rat) ([]api.Rat, api.Errno) {
	rows, list, e := readEquations(m, b)
	if e != api.OK {
		return nil, e
	}
	numbers, _ := withoutFractions(list)
	result := api.ErrNone
	for _, found := range dependences(rows) {
		if product(found.multipliers, numbers).isZero() {
			continue
		}
		y, e := found.write()
		if e == api.OK {
			return y, api.OK
		}
		result = e
	}
	return nil, result
}

// CheckRefute returns OK for multipliers that refute equations.
func CheckRefute(m [][]api.Rat, b, y []api.Rat) api.Errno {
	rows, list, e := readEquations(m, b)
	if e != api.OK {
		return e
	}
	given, e := readShaped(y, len(rows))
	if e != api.OK {
		return e
	}
	multipliers, _ := withoutFractions(given)
	for _, column := range columnsOf(rows) {
		numbers, _ := withoutFractions(column)
		if !product(multipliers, numbers).isZero() {
			return api.ErrProof
		}
	}
	numbers, _ := withoutFractions(list)
	if product(multipliers, numbers).isZero() {
		return api.ErrProof
	}
	return api.OK
}

func readEquations(m [][]api.Rat, b []api.Rat) ([][]fraction, []fraction, api.Errno) {
	if len(m) == 0 {
		return nil, nil, api.ErrEmpty
	}
	if len(m) > MaxEquations || len(m[0]) > MaxEquations {
		return nil, nil, api.ErrMany
	}
	rows := make([][]fraction, len(m))
	for i, texts := range m {
		row, e := readShaped(texts, len(m[0]))
		if e != api.OK {
			return nil, nil, e
		}
		rows[i] = row
	}
	list, e := readShaped(b, len(m))
	if e != api.OK {
		return nil, nil, e
	}
	return rows, list, api.OK
}

// readShaped returns the numbers of a list that has to have so many.
func readShaped(texts []api.Rat, length int) ([]fraction, api.Errno) {
	if len(texts) != length {
		return nil, api.ErrShape
	}
	return readList(texts)
}

// withoutFractions returns the least multiples of numbers that are integers, and by what they are multiplied.
func withoutFractions(numbers []fraction) ([]integer, integer) {
	multiple := naturalOf(1)
	for _, number := range numbers {
		multiple = commonMultiple(multiple, number.bottom)
	}
	factor := signed(false, multiple)
	integers := make([]integer, len(numbers))
	for i, number := range numbers {
		integers[i] = number.top.times(factor.exact(signed(false, number.bottom)))
	}
	return integers, factor
}

func columnsOf(rows [][]fraction) [][]fraction {
	columns := make([][]fraction, len(rows[0]))
	for i := range columns {
		for _, row := range rows {
			columns[i] = append(columns[i], row[i])
		}
	}
	return columns
}

// product returns the sum of the products of the numbers at the same places.
func product(a, b []integer) integer {
	var sum integer
	for i := range a {
		sum = sum.plus(a[i].times(b[i]))
	}
	return sum
}

// eliminate clears as many of the first columns as it can, each one but for its pivot, and returns the pivots. In the
// end each of them is the number that is returned. There are no fractions on the way: what is left in the rows are
// determinants of a part of the first ones, and those of a part are divisors of the larger ones.
func eliminate[T ring[T]](rows [][]T, columns int, one T) ([]pivot, T) {
	var pivots []pivot
	divisor := one
	for {
		next, found := findPivot(rows, pivots, columns)
		if !found {
			return pivots, divisor
		}
		clearColumn(rows, next, divisor)
		divisor = rows[next.row][next.column]
		pivots = append(pivots, next)
	}
}

// findPivot returns the place of the next number that is not 0, column by column, in rows without a pivot.
func findPivot[T ring[T]](rows [][]T, pivots []pivot, columns int) (pivot, bool) {
	var next pivot
	first, found := 0, false
	if len(pivots) > 0 {
		first = pivots[len(pivots)-1].column + 1
	}
search:
	for column := first; column < columns; column++ {
		for row := range rows {
			if !isPivotRow(pivots, row) && !rows[row][column].isZero() {
				next, found = pivot{row, column}, true
				break search
			}
		}
	}
	return next, found
}

// clearColumn clears the column of a pivot in all other rows; the divisor is the pivot before it, or one.
func clearColumn[T ring[T]](rows [][]T, at pivot, divisor T) {
	pivotRow := rows[at.row]
	factor := pivotRow[at.column]
	for i, row := range rows {
		if i == at.row {
			continue
		}
		multiple := row[at.column]
		for j, number := range row {
			row[j] = number.times(factor).minus(multiple.times(pivotRow[j])).exact(divisor)
		}
	}
}

func isPivotRow(pivots []pivot, row int) bool {
	return slices.ContainsFunc(pivots, func(p pivot) bool { return p.row == row })
}

func isPivotColumn(pivots []pivot, column int) bool {
	return slices.ContainsFunc(pivots, func(p pivot) bool { return p.column == column })
}

// contradicts tells whether a row that is cleared of all unknowns asks for a number other than 0.
func contradicts(extended [][]integer, pivots []pivot, unknowns int) bool {
	for i, row := range extended {
		if !isPivotRow(pivots, i) && !row[unknowns].isZero() {
			return true
		}
	}
	return false
}

// dependences returns, for each row that depends on rows before it, how it does; all others are sums of multiples of
// these. So equations have a solution if none of these leads to a contradiction.
func dependences(rows [][]fraction) []dependence {
	columns := columnsOf(rows)
	scaled, factors := make([][]integer, len(columns)), make([]integer, len(columns))
	for i, column := range columns {
		scaled[i], factors[i] = withoutFractions(column)
	}
	pivots, unit := eliminate(scaled, len(rows), integerOf(1))
	scale := integerOf(1)
	for _, p := range pivots {
		scale = scale.times(factors[p.row])
	}
	var list []dependence
	for free := range rows {
		if isPivotColumn(pivots, free) {
			continue
		}
		multipliers := make([]integer, len(rows))
		multipliers[free] = unit.negated()
		for _, p := range pivots {
			multipliers[p.column] = scaled[p.row][free]
		}
		list = append(list, dependence{multipliers, unit, scale})
	}
	return list
}

// write returns the multipliers divided by a number with which they fit into the limit of digits, if one is found.
func (d dependence) write() ([]api.Rat, api.Errno) {
	var common natural
	for _, multiplier := range d.multipliers {
		common = commonDivisor(common, multiplier.size)
	}
	for _, divisor := range []integer{signed(false, common), d.unit, d.scale} {
		if y, e := writeQuotients(d.multipliers, divisor); e == api.OK {
			return y, api.OK
		}
	}
	return nil, api.ErrLarge
}

func writeQuotients(numbers []integer, divisor integer) ([]api.Rat, api.Errno) {
	texts := make([]api.Rat, len(numbers))
	for i, number := range numbers {
		text, e := write(quotient(number, divisor))
		if e != api.OK {
			return nil, e
		}
		texts[i] = text
	}
	return texts, api.OK
}
