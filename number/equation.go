package number

import (
	"slices"

	"becket/api"
	"becket/exact"
)

// ring is what numbers need for elimination; Exact divides where there is no remainder.
type ring[T any] interface {
	Times(T) T
	Minus(T) T
	Exact(T) T
	IsZero() bool
}

// pivot is the place of a number by which its column is cleared in all other rows.
type pivot struct {
	row, column int
}

// dependence has multipliers for which the sum of some rows has zeros alone. They may be divided by any number: unit
// makes one of them -1, and scale makes all of them sums of products of the numbers in the rows.
type dependence struct {
	multipliers []exact.Integer
	unit, scale exact.Integer
}

// Solve returns the only solution of equations.
func Solve(m [][]api.Rat, b []api.Rat) ([]api.Rat, api.Errno) {
	rows, list, e := readEquations(m, b)
	if e != api.OK {
		return nil, e
	}
	unknowns := len(rows[0])
	extended := make([][]exact.Integer, len(rows))
	for i, row := range rows {
		extended[i], _ = withoutFractions(append(row, list[i]))
	}
	pivots, divisor := eliminate(extended, unknowns, exact.IntegerOf(1))
	if len(pivots) < unknowns || contradicts(extended, pivots, unknowns) {
		return nil, api.ErrSingular
	}
	solution := make([]exact.Integer, unknowns)
	for _, p := range pivots {
		solution[p.column] = extended[p.row][unknowns]
	}
	return writeQuotients(solution, divisor)
}

// Refute returns multipliers that refute equations.
func Refute(m [][]api.Rat, b []api.Rat) ([]api.Rat, api.Errno) {
	rows, list, e := readEquations(m, b)
	if e != api.OK {
		return nil, e
	}
	numbers, _ := withoutFractions(list)
	result := api.ErrNone
	for _, found := range dependences(rows) {
		if product(found.multipliers, numbers).IsZero() {
			continue
		}
		y, e := found.write()
		if e == api.OK {
			return y, api.OK
		}
		result = e
	}
	return nil, result
}

// CheckRefute returns OK for multipliers that refute equations.
func CheckRefute(m [][]api.Rat, b, y []api.Rat) api.Errno {
	rows, list, e := readEquations(m, b)
	if e != api.OK {
		return e
	}
	given, e := readShaped(y, len(rows))
	if e != api.OK {
		return e
	}
	multipliers, _ := withoutFractions(given)
	for _, column := range columnsOf(rows) {
		numbers, _ := withoutFractions(column)
		if !product(multipliers, numbers).IsZero() {
			return api.ErrProof
		}
	}
	numbers, _ := withoutFractions(list)
	if product(multipliers, numbers).IsZero() {
		return api.ErrProof
	}
	return api.OK
}

func readEquations(m [][]api.Rat, b []api.Rat) ([][]exact.Fraction, []exact.Fraction, api.Errno) {
	if len(m) == 0 {
		return nil, nil, api.ErrEmpty
	}
	if len(m) > MaxEquations || len(m[0]) > MaxEquations {
		return nil, nil, api.ErrMany
	}
	rows := make([][]exact.Fraction, len(m))
	for i, texts := range m {
		row, e := readShaped(texts, len(m[0]))
		if e != api.OK {
			return nil, nil, e
		}
		rows[i] = row
	}
	list, e := readShaped(b, len(m))
	if e != api.OK {
		return nil, nil, e
	}
	return rows, list, api.OK
}

// readShaped returns the numbers of a list that has to have so many.
func readShaped(texts []api.Rat, length int) ([]exact.Fraction, api.Errno) {
	if len(texts) != length {
		return nil, api.ErrShape
	}
	numbers := make([]exact.Fraction, length)
	for i, text := range texts {
		number, e := exact.Read(text)
		if e != api.OK {
			return nil, e
		}
		numbers[i] = number
	}
	return numbers, api.OK
}

// withoutFractions returns the least multiples of numbers that are integers, and by what they are multiplied.
func withoutFractions(numbers []exact.Fraction) ([]exact.Integer, exact.Integer) {
	factor := exact.IntegerOf(1)
	for _, number := range numbers {
		factor = exact.CommonMultiple(factor, number.Bottom())
	}
	integers := make([]exact.Integer, len(numbers))
	for i, number := range numbers {
		integers[i] = number.Top().Times(factor.Exact(number.Bottom()))
	}
	return integers, factor
}

func columnsOf(rows [][]exact.Fraction) [][]exact.Fraction {
	columns := make([][]exact.Fraction, len(rows[0]))
	for i := range columns {
		for _, row := range rows {
			columns[i] = append(columns[i], row[i])
		}
	}
	return columns
}

// product returns the sum of the products of the numbers at the same places.
func product(a, b []exact.Integer) exact.Integer {
	var sum exact.Integer
	for i := range a {
		sum = sum.Plus(a[i].Times(b[i]))
	}
	return sum
}

// eliminate clears as many of the first columns as it can, each one but for its pivot, and returns the pivots. In the
// end each of them is the number that is returned. There are no fractions on the way: what is left in the rows are
// determinants of a part of the first ones, and those of a part are divisors of the larger ones.
func eliminate[T ring[T]](rows [][]T, columns int, one T) ([]pivot, T) {
	var pivots []pivot
	divisor := one
	for {
		next, found := findPivot(rows, pivots, columns)
		if !found {
			return pivots, divisor
		}
		clearColumn(rows, next, divisor)
		divisor = rows[next.row][next.column]
		pivots = append(pivots, next)
	}
}

// findPivot returns the place of the next number that is not 0, column by column, in rows without a pivot.
func findPivot[T ring[T]](rows [][]T, pivots []pivot, columns int) (pivot, bool) {
	var next pivot
	first, found := 0, false
	if len(pivots) > 0 {
		first = pivots[len(pivots)-1].column + 1
	}
search:
	for column := first; column < columns; column++ {
		for row := range rows {
			if !isPivotRow(pivots, row) && !rows[row][column].IsZero() {
				next, found = pivot{row, column}, true
				break search
			}
		}
	}
	return next, found
}

// clearColumn clears the column of a pivot in all other rows; the divisor is the pivot before it, or one.
func clearColumn[T ring[T]](rows [][]T, at pivot, divisor T) {
	pivotRow := rows[at.row]
	factor := pivotRow[at.column]
	for i, row := range rows {
		if i == at.row {
			continue
		}
		multiple := row[at.column]
		for j, number := range row {
			row[j] = number.Times(factor).Minus(multiple.Times(pivotRow[j])).Exact(divisor)
		}
	}
}

func isPivotRow(pivots []pivot, row int) bool {
	return slices.ContainsFunc(pivots, func(p pivot) bool { return p.row == row })
}

func isPivotColumn(pivots []pivot, column int) bool {
	return slices.ContainsFunc(pivots, func(p pivot) bool { return p.column == column })
}

// contradicts tells whether a row that is cleared of all unknowns asks for a number other than 0.
func contradicts(extended [][]exact.Integer, pivots []pivot, unknowns int) bool {
	for i, row := range extended {
		if !isPivotRow(pivots, i) && !row[unknowns].IsZero() {
			return true
		}
	}
	return false
}

// dependences returns, for each row that depends on rows before it, how it does; all others are sums of multiples of
// these. So equations have a solution if none of these leads to a contradiction.
func dependences(rows [][]exact.Fraction) []dependence {
	columns := columnsOf(rows)
	scaled, factors := make([][]exact.Integer, len(columns)), make([]exact.Integer, len(columns))
	for i, column := range columns {
		scaled[i], factors[i] = withoutFractions(column)
	}
	pivots, unit := eliminate(scaled, len(rows), exact.IntegerOf(1))
	scale := exact.IntegerOf(1)
	for _, p := range pivots {
		scale = scale.Times(factors[p.row])
	}
	var list []dependence
	for free := range rows {
		if isPivotColumn(pivots, free) {
			continue
		}
		multipliers := make([]exact.Integer, len(rows))
		multipliers[free] = unit.Negated()
		for _, p := range pivots {
			multipliers[p.column] = scaled[p.row][free]
		}
		list = append(list, dependence{multipliers, unit, scale})
	}
	return list
}

// write returns the multipliers divided by a number with which they fit into the limit of digits, if one is found.
func (d dependence) write() ([]api.Rat, api.Errno) {
	var common exact.Integer
	for _, multiplier := range d.multipliers {
		common = exact.CommonDivisor(common, multiplier)
	}
	for _, divisor := range []exact.Integer{common, d.unit, d.scale} {
		if y, e := writeQuotients(d.multipliers, divisor); e == api.OK {
			return y, api.OK
		}
	}
	return nil, api.ErrLarge
}

func writeQuotients(numbers []exact.Integer, divisor exact.Integer) ([]api.Rat, api.Errno) {
	texts := make([]api.Rat, len(numbers))
	for i, number := range numbers {
		text, e := exact.Write(exact.Quotient(number, divisor))
		if e != api.OK {
			return nil, e
		}
		texts[i] = text
	}
	return texts, api.OK
}
