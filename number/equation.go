package number

import (
	"becket/api"
	"becket/exact"
)

// Solve returns the only solution of equations.
func Solve(m [][]api.Rat, b []api.Rat) ([]api.Rat, api.Errno) {
	rows, list, e := readEquations(m, b)
	if e != api.OK {
		return nil, e
	}
	return exact.Solve(rows, list)
}

// Refute returns multipliers that refute equations.
func Refute(m [][]api.Rat, b []api.Rat) ([]api.Rat, api.Errno) {
	rows, list, e := readEquations(m, b)
	if e != api.OK {
		return nil, e
	}
	return exact.Refute(rows, list)
}

// CheckRefute returns OK for multipliers that refute equations.
func CheckRefute(m [][]api.Rat, b, y []api.Rat) api.Errno {
	rows, list, e := readEquations(m, b)
	if e != api.OK {
		return e
	}
	multipliers, e := readShaped(y, len(rows))
	if e != api.OK {
		return e
	}
	if !exact.Refutes(rows, list, multipliers) {
		return api.ErrProof
	}
	return api.OK
}

func readEquations(m [][]api.Rat, b []api.Rat) ([][]exact.Fraction, []exact.Fraction, api.Errno) {
	if len(m) == 0 {
		return nil, nil, api.ErrEmpty
	}
	if len(m) > MaxEquations || len(m[0]) > MaxEquations {
		return nil, nil, api.ErrMany
	}
	rows := make([][]exact.Fraction, len(m))
	for i, texts := range m {
		row, e := readShaped(texts, len(m[0]))
		if e != api.OK {
			return nil, nil, e
		}
		rows[i] = row
	}
	list, e := readShaped(b, len(m))
	if e != api.OK {
		return nil, nil, e
	}
	return rows, list, api.OK
}

// readShaped returns the numbers of a list that has to have so many.
func readShaped(texts []api.Rat, length int) ([]exact.Fraction, api.Errno) {
	if len(texts) != length {
		return nil, api.ErrShape
	}
	numbers := make([]exact.Fraction, length)
	for i, text := range texts {
		number, e := exact.Read(text)
		if e != api.OK {
			return nil, e
		}
		numbers[i] = number
	}
	return numbers, api.OK
}
