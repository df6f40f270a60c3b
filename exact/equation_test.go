package exact_test

import (
	"strings"
	"testing"

	"becket/api"
	"becket/exact"
)

// The tests of package number try equations whose numbers fit into the limit; these have larger ones.

// power returns a power of ten, and one more.
func power(exponent int) exact.Fraction {
	return exact.Value(api.Rat("1" + strings.Repeat("0", exponent)))
}

func nextOf(a exact.Fraction) exact.Fraction {
	return a.Plus(exact.Ratio(1, 1))
}

// row returns the numbers of a row.
func row(numbers ...exact.Fraction) []exact.Fraction {
	return numbers
}

func texts(t *testing.T, got []api.Rat, e, wantedError api.Errno, wanted ...api.Rat) {
	t.Helper()
	same(t, e, wantedError)
	same(t, len(got), len(wanted))
	for i := range got {
		same(t, got[i], wanted[i], i)
	}
}

func TestSolveLongNumbers(t *testing.T) {
	long, longer := power(500).Times(power(500)), nextOf(power(400)).Times(nextOf(power(599)))
	zero, one, three := exact.Fraction{}, exact.Ratio(1, 1), exact.Ratio(3, 1)
	rows := [][]exact.Fraction{row(long, longer), row(one.Over(longer), zero)}
	solution, e := exact.Solve(rows, row(long.Times(three).Plus(longer), three.Over(longer)))
	texts(t, solution, e, api.OK, "3", "1")
	solution, e = exact.Solve([][]exact.Fraction{row(one)}, row(long))
	texts(t, solution, e, api.ErrLarge)
	solution, e = exact.Solve([][]exact.Fraction{row(long, long), row(longer, longer)}, row(long, longer))
	texts(t, solution, e, api.ErrSingular)
	solution, e = exact.Solve([][]exact.Fraction{row(long), row(longer)}, row(long, long))
	texts(t, solution, e, api.ErrSingular)
	solution, e = exact.Solve([][]exact.Fraction{row(long), row(longer)}, row(long, longer))
	texts(t, solution, e, api.OK, "1")
}

// refuted fails the test if equations have no refutation that fits into the limit.
func refuted(t *testing.T, rows [][]exact.Fraction, list []exact.Fraction) {
	t.Helper()
	y, e := exact.Refute(rows, list)
	same(t, e, api.OK)
	var multipliers []exact.Fraction
	for _, text := range y {
		multipliers = append(multipliers, exact.Value(text))
	}
	same(t, len(y) == len(rows) && exact.Refutes(rows, list, multipliers), true, y)
	zero := make([]exact.Fraction, len(rows))
	same(t, exact.Refutes(rows, list, zero), false, "multipliers 0")
	same(t, exact.Refutes(rows, zero, multipliers), false, "numbers 0")
}

func TestRefuteLongNumbers(t *testing.T) {
	zero, one := exact.Fraction{}, exact.Ratio(1, 1)
	a, b := power(599), nextOf(power(599))                                           // without a common divisor
	c, d := nextOf(power(598)), nextOf(power(597))                                   // all of them have almost as many digits as the limit permits
	refuted(t, [][]exact.Fraction{row(a.Times(b)), row(a.Times(c))}, row(one, zero)) // as integers c and -b
	refuted(t, [][]exact.Fraction{row(a.Over(b)), row(c.Over(d))}, row(one, zero))   // c / d and -a / b
	tenth := exact.Ratio(1, 10)
	left, right := a.Over(b), c.Over(d).Times(tenth)
	refuted(t, [][]exact.Fraction{row(left, right), row(one, zero), row(zero, one)}, row(one, zero, zero)) // 1 and both opposites
	// Here determinants have too many digits, and so have integers; only with 1 for the first row do they fit.
	factor := nextOf(power(400))
	refuted(t, [][]exact.Fraction{row(left.Times(factor), right.Times(factor)), row(factor, zero), row(zero, factor)}, row(one, zero, zero))
	y, e := exact.Refute([][]exact.Fraction{row(a, b), row(c, d)}, row(one, one))
	texts(t, y, e, api.ErrNone)
	y, e = exact.Refute([][]exact.Fraction{row(a.Times(b)), row(c.Times(d))}, row(one, zero))
	texts(t, y, e, api.ErrLarge)
	refuted(t, [][]exact.Fraction{row(), row(), row()}, row(zero, a.Times(b), zero)) // equations without unknowns
	y, e = exact.Refute([][]exact.Fraction{row(), row()}, row(zero, zero))
	texts(t, y, e, api.ErrNone)
}
