package braid

import (
	"slices"

	"becket/api"
	"becket/check"
	"becket/exact"
	"becket/number"
)

// sum is a sum of powers of a number t, by their integer factors. The powers ascend, and all sums in a matrix have the
// same ones. As t is put in at last, a long t makes no numbers on the way long that the result does not need.
type sum []exact.Integer

// Burau returns the Burau matrix of a word.
func Burau(n int, w []int, t api.Rat) ([][]api.Rat, api.Errno) {
	e := check.First(CheckWord(n, w), number.Check(t), check.That(t != "0", api.ErrZero))
	if e != api.OK {
		return nil, e
	}
	lowest := 0 // the least power that a letter can make
	for _, sign := range letters(w) {
		lowest += min(sign, 0)
	}
	rows := unitMatrix(n, len(w)+1, -lowest)
	for at, sign := range letters(w) {
		for _, row := range rows {
			multiply(row, at, sign)
		}
	}
	return matrixAt(exact.Value(t), lowest, rows)
}

// unitMatrix returns the unit matrix of sums with so many powers, of which the power 0 is at a place.
func unitMatrix(n, powers, place int) [][]sum {
	rows := make([][]sum, n)
	for i := range rows {
		rows[i] = make([]sum, n)
		for k := range rows[i] {
			rows[i][k] = make(sum, powers)
		}
		rows[i][i][place] = exact.IntegerOf(1)
	}
	return rows
}

// multiply multiplies a row by the matrix of a letter.
func multiply(row []sum, at, sign int) {
	both := row[at].with(row[at+1], exact.Integer.Plus)
	if sign > 0 {
		row[at+1] = row[at].higher()
		row[at] = both.with(row[at+1], exact.Integer.Minus)
	} else {
		row[at] = row[at+1].lower()
		row[at+1] = both.with(row[at], exact.Integer.Minus)
	}
}

// matrixAt returns the numbers of sums at a number t, or ErrLarge.
func matrixAt(t exact.Fraction, lowest int, rows [][]sum) ([][]api.Rat, api.Errno) {
	matrix := make([][]api.Rat, len(rows))
	for i, row := range rows {
		for _, s := range row {
			text, e := exact.Write(s.at(t, lowest))
			if e != api.OK {
				return nil, e
			}
			matrix[i] = append(matrix[i], text)
		}
	}
	return matrix, api.OK
}

// with combines the factors of two sums.
func (s sum) with(other sum, operation func(a, b exact.Integer) exact.Integer) sum {
	result := make(sum, len(s))
	for i := range s {
		result[i] = operation(s[i], other[i])
	}
	return result
}

// higher returns t times a sum that does not have the highest power.
func (s sum) higher() sum {
	return slices.Concat(make(sum, 1), s[:len(s)-1])
}

// lower returns a sum that does not have the lowest power, divided by t.
func (s sum) lower() sum {
	return slices.Concat(s[1:], make(sum, 1))
}

// at returns the number of a sum at a number t.
func (s sum) at(t exact.Fraction, lowest int) exact.Fraction {
	for len(s) > 0 && s[len(s)-1].IsZero() {
		s = s[:len(s)-1]
	}
	for len(s) > 0 && s[0].IsZero() {
		s, lowest = s[1:], lowest+1
	}
	if len(s) == 0 {
		return exact.Fraction{}
	}
	last := len(s) - 1
	top, bottom := s[last], exact.IntegerOf(1)
	for _, factor := range slices.Backward(s[:last]) {
		bottom = bottom.Times(t.Bottom())
		top = top.Times(t.Top()).Plus(factor.Times(bottom))
	}
	up, down := t.Top(), t.Bottom()
	if lowest < 0 {
		up, down, lowest = down, up, -lowest
	}
	for range lowest {
		top, bottom = top.Times(up), bottom.Times(down)
	}
	return exact.Quotient(top, bottom)
}
