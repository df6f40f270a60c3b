package exact

import (
	"slices"

	"becket/api"
)

// ring is what numbers need for elimination; Exact divides where there is no remainder.
type ring[T any] interface {
	Times(T) T
	Minus(T) T
	Exact(T) T
	IsZero() bool
}

// pivot is the place of a number by which its column is cleared in all other rows.
type pivot struct {
	row, column int
}

// dependence has multipliers for which the sum of some rows has zeros alone. They may be divided by any number: scale
// makes all of them sums of products of the numbers in the rows.
type dependence struct {
	multipliers []Integer
	scale       Integer
}

// Solve returns the only solution of equations, ErrSingular if there is not just one, and ErrLarge if a number of it has
// too many digits. There is at least one row, all rows have as many numbers, and the list has one for each row.
func Solve(rows [][]Fraction, list []Fraction) ([]api.Rat, api.Errno) {
	unknowns := len(rows[0])
	extended := make([][]Integer, len(rows))
	for i, row := range rows {
		extended[i], _ = withoutFractions(append(slices.Clone(row), list[i]))
	}
	pivots, divisor := eliminate(extended, unknowns, IntegerOf(1))
	if len(pivots) < unknowns || contradicts(extended, pivots, unknowns) {
		return nil, api.ErrSingular
	}
	solution := make([]Integer, unknowns)
	for _, p := range pivots {
		solution[p.column] = extended[p.row][unknowns]
	}
	return writeQuotients(solution, divisor)
}

// Refute returns multipliers that refute such equations, ErrNone if there are none, and ErrLarge if none are found that
// fit into the limit of digits.
func Refute(rows [][]Fraction, list []Fraction) ([]api.Rat, api.Errno) {
	numbers, _ := withoutFractions(list)
	result := api.ErrNone
	for _, found := range dependences(rows) {
		if product(found.multipliers, numbers).IsZero() {
			continue
		}
		y, e := found.write()
		if e == api.OK {
			return y, api.OK
		}
		result = e
	}
	return nil, result
}

// Refutes tells whether multipliers, one for each row, refute such equations.
func Refutes(rows [][]Fraction, list, y []Fraction) bool {
	multipliers, _ := withoutFractions(y)
	for _, column := range columnsOf(rows) {
		numbers, _ := withoutFractions(column)
		if !product(multipliers, numbers).IsZero() {
			return false
		}
	}
	numbers, _ := withoutFractions(list)
	return !product(multipliers, numbers).IsZero()
}

// withoutFractions returns the least multiples of numbers that are integers, and by what they are multiplied.
func withoutFractions(numbers []Fraction) ([]Integer, Integer) {
	factor := IntegerOf(1)
	for _, number := range numbers {
		factor = CommonMultiple(factor, number.Bottom())
	}
	integers := make([]Integer, len(numbers))
	for i, number := range numbers {
		integers[i] = number.Top().Times(factor.Exact(number.Bottom()))
	}
	return integers, factor
}

func columnsOf(rows [][]Fraction) [][]Fraction {
	columns := make([][]Fraction, len(rows[0]))
	for i := range columns {
		for _, row := range rows {
			columns[i] = append(columns[i], row[i])
		}
	}
	return columns
}

// product returns the sum of the products of the numbers at the same places.
func product(a, b []Integer) Integer {
	var sum Integer
	for i := range a {
		sum = sum.Plus(a[i].Times(b[i]))
	}
	return sum
}

// eliminate clears as many of the first columns as it can, each one but for its pivot, and returns the pivots. In the
// end each of them is the number that is returned. There are no fractions on the way: what is left in the rows are
// determinants of a part of the first ones, and those of a part are divisors of the larger ones.
func eliminate[T ring[T]](rows [][]T, columns int, one T) ([]pivot, T) {
	var pivots []pivot
	divisor := one
	for {
		next, found := findPivot(rows, pivots, columns)
		if !found {
			return pivots, divisor
		}
		clearColumn(rows, next, divisor)
		divisor = rows[next.row][next.column]
		pivots = append(pivots, next)
	}
}

// findPivot returns the place of the next number that is not 0, column by column, in rows without a pivot.
func findPivot[T ring[T]](rows [][]T, pivots []pivot, columns int) (pivot, bool) {
	var next pivot
	first, found := 0, false
	if len(pivots) > 0 {
		first = pivots[len(pivots)-1].column + 1
	}
search:
	for column := first; column < columns; column++ {
		for row := range rows {
			if !isPivotRow(pivots, row) && !rows[row][column].IsZero() {
				next, found = pivot{row, column}, true
				break search
			}
		}
	}
	return next, found
}

// clearColumn clears the column of a pivot in all other rows; the divisor is the pivot before it, or one.
func clearColumn[T ring[T]](rows [][]T, at pivot, divisor T) {
	pivotRow := rows[at.row]
	factor := pivotRow[at.column]
	for i, row := range rows {
		if i == at.row {
			continue
		}
		multiple := row[at.column]
		for j, number := range row {
			row[j] = number.Times(factor).Minus(multiple.Times(pivotRow[j])).Exact(divisor)
		}
	}
}

func isPivotRow(pivots []pivot, row int) bool {
	return slices.ContainsFunc(pivots, func(p pivot) bool { return p.row == row })
}

func isPivotColumn(pivots []pivot, column int) bool {
	return slices.ContainsFunc(pivots, func(p pivot) bool { return p.column == column })
}

// contradicts tells whether a row that is cleared of all unknowns asks for a number other than 0.
func contradicts(extended [][]Integer, pivots []pivot, unknowns int) bool {
	for i, row := range extended {
		if !isPivotRow(pivots, i) && !row[unknowns].IsZero() {
			return true
		}
	}
	return false
}

// dependences returns, for each row that depends on rows before it, how it does; all others are sums of multiples of
// these. So equations have a solution if none of these leads to a contradiction.
func dependences(rows [][]Fraction) []dependence {
	columns := columnsOf(rows)
	scaled, factors := make([][]Integer, len(columns)), make([]Integer, len(columns))
	for i, column := range columns {
		scaled[i], factors[i] = withoutFractions(column)
	}
	pivots, unit := eliminate(scaled, len(rows), IntegerOf(1))
	scale := IntegerOf(1)
	for _, p := range pivots {
		scale = scale.Times(factors[p.row])
	}
	var list []dependence
	for free := range rows {
		if isPivotColumn(pivots, free) {
			continue
		}
		multipliers := make([]Integer, len(rows))
		multipliers[free] = unit.Negated()
		for _, p := range pivots {
			multipliers[p.column] = scaled[p.row][free]
		}
		list = append(list, dependence{multipliers, scale})
	}
	return list
}

// write returns the multipliers divided by a number with which they fit into the limit of digits, if one is found.
func (d dependence) write() ([]api.Rat, api.Errno) {
	var common Integer
	for _, multiplier := range d.multipliers {
		common = CommonDivisor(common, multiplier)
	}
	divisors := append([]Integer{common, d.scale}, d.multipliers...)
	for _, divisor := range divisors {
		if divisor.IsZero() {
			continue
		}
		if y, e := writeQuotients(d.multipliers, divisor); e == api.OK {
			return y, api.OK
		}
	}
	return nil, api.ErrLarge
}

func writeQuotients(numbers []Integer, divisor Integer) ([]api.Rat, api.Errno) {
	texts := make([]api.Rat, len(numbers))
	for i, number := range numbers {
		text, e := Write(Quotient(number, divisor))
		if e != api.OK {
			return nil, e
		}
		texts[i] = text
	}
	return texts, api.OK
}
