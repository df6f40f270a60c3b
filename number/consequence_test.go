package number_test

import (
	"math"
	"math/big"
	"slices"
	"testing"

	"becket/api"
	"becket/number"
)

// The tests of P1.6, and of P1 for the package.

// within tells whether a number is in a span.
func within(t *testing.T, value *big.Rat, s api.Span) bool {
	t.Helper()
	return value.Cmp(exact(t, s.Low)) >= 0 && value.Cmp(exact(t, s.High)) <= 0
}

// inside returns some numbers of a span.
func inside(t *testing.T, s api.Span) []*big.Rat {
	low, high := exact(t, s.Low), exact(t, s.High)
	width := new(big.Rat).Sub(high, low)
	var list []*big.Rat
	for _, part := range []*big.Rat{big.NewRat(0, 1), big.NewRat(1, 7), big.NewRat(1, 2), big.NewRat(5, 6), big.NewRat(1, 1)} {
		list = append(list, new(big.Rat).Add(low, new(big.Rat).Mul(part, width)))
	}
	return list
}

func TestSpansHoldAllResults(t *testing.T) {
	source := seeded()
	random := func() api.Span {
		low, high := randomRat(source, 3), randomRat(source, 3)
		if low.Cmp(high) > 0 {
			low, high = high, low
		}
		return span(rat(low), rat(high))
	}
	for range 200 {
		a, b := random(), random()
		for _, operation := range spanOperations {
			result, e := operation.apply(a, b)
			if e == api.ErrZero {
				continue
			}
			same(t, e, api.OK, operation.name, a, b)
			for _, x := range inside(t, a) {
				for _, y := range inside(t, b) {
					same(t, within(t, operation.big(new(big.Rat), x, y), result), true, operation.name, a, b, x, y)
				}
			}
		}
		order, e := number.Compare(a, b)
		for _, x := range inside(t, a) {
			for _, y := range inside(t, b) {
				same(t, e == api.ErrOpen || x.Cmp(y) == order, true, "Compare", a, b)
			}
		}
	}
}

func TestRootsHoldTheRoot(t *testing.T) {
	source := seeded()
	for range 300 {
		a := randomRat(source, 12)
		a.Abs(a)
		s, e := number.Root(rat(a))
		same(t, e, api.OK, a)
		low, high := exact(t, s.Low), exact(t, s.High)
		same(t, low.Mul(low, low).Cmp(a) <= 0 && high.Mul(high, high).Cmp(a) >= 0, true, "Root", a, s)
	}
}

func TestSpansOfPi(t *testing.T) {
	scale := new(big.Int).Exp(big.NewInt(10), big.NewInt(40), nil)
	pi := new(big.Rat).SetFrac(bigPi(), scale)
	outer, _ := number.Pi(1)
	for k := 1; k <= number.MaxDecimals; k++ {
		s, _ := number.Pi(k)
		same(t, within(t, pi, s), true, k)
		same(t, within(t, exact(t, s.Low), outer) && within(t, exact(t, s.High), outer), true, "nested", k)
		width := new(big.Rat).Sub(exact(t, s.High), exact(t, s.Low))
		same(t, width.Cmp(new(big.Rat).SetFrac(big.NewInt(1), new(big.Int).Exp(big.NewInt(10), big.NewInt(int64(k)), nil))), 0, "width", k)
		for _, operation := range spanOperations {
			result, e := operation.apply(span("-3/2", "5/7"), s)
			same(t, e, api.OK, operation.name, k)
			same(t, within(t, operation.big(new(big.Rat), big.NewRat(-3, 2), pi), result), true, operation.name, k)
			same(t, within(t, operation.big(new(big.Rat), big.NewRat(5, 7), pi), result), true, operation.name, k)
		}
		outer = s
	}
}

func TestPeriodsAndCycles(t *testing.T) {
	source := seeded()
	for range 100 {
		p := source.Perm(1 + source.Intn(14))
		text, _ := number.Period(p)
		period := int(exact(t, text).Num().Int64())
		for k := 1; k <= period; k++ {
			power, _ := number.Power(p, k)
			same(t, slices.Equal(power, identity(len(p))), k == period, p, k)
		}
		cycles, _ := number.Cycles(p)
		places := 0
		for _, cycle := range cycles {
			places += len(cycle)
			for _, start := range cycle {
				place, steps := p[start], 1
				for ; place != start; steps++ {
					place = p[place]
				}
				same(t, len(cycle), steps, p, cycle)
			}
		}
		same(t, places, len(p), p)
		inverse, _ := number.Inverse(p)
		both, _ := number.Compose(p, inverse)
		same(t, both, identity(len(p)), p)
		twice, _ := number.Compose(p, p)
		power, _ := number.Power(p, 2)
		same(t, twice, power, p)
	}
}

func TestNoFractionIsNearer(t *testing.T) {
	source := seeded()
	for range 60 {
		x := randomRat(source, 2)
		most := 1 + source.Intn(12)
		text, _ := number.Nearest(rat(x), most)
		nearest := exact(t, text)
		same(t, nearest.Denom().Cmp(big.NewInt(int64(most))) <= 0, true, x, most)
		for bottom := int64(1); bottom <= int64(most); bottom++ {
			for top := -100 * bottom; top <= 100*bottom; top++ {
				if other := big.NewRat(top, bottom); other.Cmp(nearest) != 0 && better(x, other, nearest) {
					t.Fatalf("%v is better than %v for %v up to %d", other, nearest, x, most)
				}
			}
		}
	}
}

func TestSharesAddUp(t *testing.T) {
	source := seeded()
	for range 500 {
		weights := make([]int, 1+source.Intn(256))
		for i := range weights {
			weights[i] = source.Intn(api.MaxNumber + 1)
		}
		total, sum := source.Intn(api.MaxNumber+1), 0
		shares, e := number.Shares(total, weights)
		same(t, e, api.OK, total)
		for i, share := range shares {
			sum += share
			same(t, share >= 0, true, i)
		}
		same(t, sum, total, len(weights))
	}
}

func TestDrawnOrdersHaveEachElement(t *testing.T) {
	for key := 1; key < 2147483646; key += 9876543 {
		for _, n := range []int{0, 1, 9, 256} {
			order, e := number.Draw(key, n)
			same(t, e, api.OK, key, n)
			slices.Sort(order)
			same(t, order, identity(n), key, n)
		}
	}
}

func TestEquationsHaveASolutionOrARefutation(t *testing.T) {
	source := seeded()
	for range 500 {
		m, b := texts(randomEquations(source))
		x, errorOfSolve := number.Solve(m, b)
		y, errorOfRefute := number.Refute(m, b)
		switch {
		case errorOfSolve == api.OK:
			same(t, solves(t, m, b, x), true, m, b)
			same(t, errorOfRefute, api.ErrNone, m, b)
		case errorOfRefute == api.OK:
			same(t, errorOfSolve, api.ErrSingular, m, b)
			same(t, refutes(t, m, b, y), true, m, b)
		default:
			same(t, errorOfSolve, api.ErrSingular, m, b)
			same(t, errorOfRefute, api.ErrNone, m, b)
		}
	}
}

// P1: whatever the arguments are, each function returns; an error comes with the zero value, and a text is a number.
func TestAnyArguments(t *testing.T) {
	strange := []api.Rat{"", "0", "-1", "3/2", "x", "1/0", "\xff", nines(600), "-1/" + nines(600), nines(601), "2/4"}
	integers := []int{math.MinInt, -1, 0, 1, 2, 24, 30, 256, api.MaxNumber, math.MaxInt}
	checked := func(text api.Rat, e api.Errno) {
		t.Helper()
		same(t, number.Check(text) == api.OK, e == api.OK, text, e)
		same(t, text == "", e != api.OK, text, e)
	}
	for _, a := range strange {
		for _, b := range strange {
			for _, operation := range operations {
				checked(operation.apply(a, b))
			}
			for _, c := range strange {
				for _, operation := range spanOperations {
					s, e := operation.apply(span(a, b), span(c, a))
					same(t, number.CheckSpan(s) == api.OK, e == api.OK, a, b, c)
				}
				checked(number.Step([]api.Point{{X: a, Y: b}}, c))
				number.Solve([][]api.Rat{{a, b}, {c}}, []api.Rat{a, b})
				number.Refute([][]api.Rat{{a, b}, {c, a}}, []api.Rat{b, c})
				number.CheckRefute([][]api.Rat{{a, b}}, []api.Rat{b}, []api.Rat{c})
			}
		}
		for _, k := range integers {
			checked(number.Nearest(a, k))
		}
		checked(number.Floor(a))
		number.Root(a)
		number.IsName(string(a))
	}
	for _, i := range integers {
		for _, j := range integers {
			checked(number.Of(i, j))
			number.Shares(i, []int{j, i})
			number.Draw(i, j)
			number.Power([]int{i, j}, j)
			number.Compose([]int{i, j}, []int{j})
			checked(number.Period([]int{i, j}))
			number.Cycles([]int{i, j})
			number.Inverse([]int{i, j})
		}
		number.Pi(i)
	}
}

// Results that are not free are the same on each call.
func TestDeterminism(t *testing.T) {
	for range 20 {
		x, _ := number.Solve([][]api.Rat{{"3", "1"}, {"1", "-2"}}, []api.Rat{"9", "-4"})
		same(t, x, []api.Rat{"2", "3"})
		shares, _ := number.Shares(5, []int{1, 1, 1, 1, 1, 1, 1})
		same(t, shares, []int{1, 1, 1, 1, 1, 0, 0})
		same(t, number.CheckPerm([]int{3, 1, 0, 2}), api.OK)
		cycles, _ := number.Cycles([]int{3, 1, 0, 2})
		same(t, cycles, [][]int{{0, 3, 2}, {1}})
	}
}
