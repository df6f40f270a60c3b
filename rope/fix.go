package rope

import (
	"becket/api"
	"becket/check"
	"becket/exact"
)

// Fix returns the only twists of some parts with which other parts are balanced.
func Fix(r Rope, balanced, free []int) ([]api.Rat, api.Errno) {
	e := check.First(
		CheckRope(r), checkList(r, balanced), checkList(r, free),
		check.That(len(free) == len(balanced) && len(free) > 0, api.ErrShape), check.That(len(free) <= api.MaxExact, api.ErrMany),
	)
	if e != api.OK {
		return nil, e
	}
	return exact.Solve(equationsOf(r, balanced, free))
}

// Refute returns multipliers that prove that no twists of some parts balance other parts.
func Refute(r Rope, balanced, free []int) ([]api.Rat, api.Errno) {
	if e := checkRefutable(r, balanced, free); e != api.OK {
		return nil, e
	}
	return exact.Refute(equationsOf(r, balanced, free))
}

// CheckRefute returns OK for multipliers that prove it.
func CheckRefute(r Rope, balanced, free []int, y []api.Rat) api.Errno {
	if e := check.First(checkRefutable(r, balanced, free), checkNumbers(y, len(balanced))); e != api.OK {
		return e
	}
	multipliers := make([]exact.Fraction, len(y))
	for i, text := range y {
		multipliers[i] = exact.Value(text)
	}
	rows, numbers := equationsOf(r, balanced, free)
	return check.That(exact.Refutes(rows, numbers, multipliers), api.ErrProof)
}

// checkRefutable returns the first error of equations that may have no solution.
func checkRefutable(r Rope, balanced, free []int) api.Errno {
	return check.First(
		CheckRope(r), checkList(r, balanced), checkList(r, free), check.That(len(balanced) > 0, api.ErrEmpty),
		check.That(len(balanced) <= api.MaxExact && len(free) <= api.MaxExact, api.ErrMany),
	)
}

// equationsOf returns, for each part that has to be balanced, the multiples of the twists of the free ones, and the number
// that their sum has to be.
func equationsOf(r Rope, balanced, free []int) ([][]exact.Fraction, []exact.Fraction) {
	moments := momentsOf(r.Parts, free)
	rows, numbers := make([][]exact.Fraction, len(balanced)), make([]exact.Fraction, len(balanced))
	for i, part := range balanced {
		rows[i], numbers[i] = moments[part][:len(free)], moments[part].number().Negated()
	}
	return rows, numbers
}
