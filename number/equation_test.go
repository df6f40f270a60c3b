package number_test

import (
	"math/big"
	"math/rand"
	"slices"
	"testing"

	"becket/api"
	"becket/number"
)

// The tests of P1.5 for equations.

// matrix returns rows of equal numbers.
func matrix(rows, columns int, text api.Rat) [][]api.Rat {
	m := make([][]api.Rat, rows)
	for i := range m {
		m[i] = slices.Repeat([]api.Rat{text}, columns)
	}
	return m
}

// diagonal returns a matrix with numbers from its first to its last corner, and 0 elsewhere.
func diagonal(texts ...api.Rat) [][]api.Rat {
	m := matrix(len(texts), len(texts), "0")
	for i, text := range texts {
		m[i][i] = text
	}
	return m
}

// badEquations has equations for each error, and for each of its places.
type badEquations struct {
	m [][]api.Rat
	b []api.Rat
	e api.Errno
}

func allBadEquations() []badEquations {
	large := nines(601)
	return []badEquations{
		{nil, nil, api.ErrEmpty}, {[][]api.Rat{}, []api.Rat{"x"}, api.ErrEmpty},
		{matrix(25, 1, "1"), make([]api.Rat, 25), api.ErrMany}, {matrix(25, 1, "x"), nil, api.ErrMany}, {make([][]api.Rat, 25), nil, api.ErrMany},
		{matrix(1, 25, "1"), []api.Rat{"1"}, api.ErrMany}, {matrix(2, 25, "x"), nil, api.ErrMany}, {append(matrix(1, 25, "1"), nil), nil, api.ErrMany},
		{append(matrix(1, 24, "1"), matrix(1, 25, "1")...), []api.Rat{"1", "1"}, api.ErrShape},
		{[][]api.Rat{{"1", "1"}, {"2"}}, []api.Rat{"3", "6"}, api.ErrShape}, {[][]api.Rat{{"1"}, {"2", "1"}}, []api.Rat{"3", "6"}, api.ErrShape},
		{[][]api.Rat{{}, {"2"}}, []api.Rat{"3", "6"}, api.ErrShape}, {[][]api.Rat{{"2"}, {}}, []api.Rat{"3", "6"}, api.ErrShape},
		{[][]api.Rat{{"1"}, {"x", "1"}}, nil, api.ErrShape}, {[][]api.Rat{{"1"}, {"1", large}, {"x"}}, nil, api.ErrShape},
		{[][]api.Rat{{"x"}, {"1", "1"}}, nil, api.ErrForm}, {[][]api.Rat{{large}, {"1", "1"}}, nil, api.ErrLarge},
		{[][]api.Rat{{"1", "2/4", large}}, nil, api.ErrForm}, {[][]api.Rat{{"1", large, "2/4"}}, nil, api.ErrLarge},
		{[][]api.Rat{{"1"}, {"2"}, {"3/1"}}, []api.Rat{"1"}, api.ErrForm},
		{[][]api.Rat{{"1"}, {"2"}}, []api.Rat{"1"}, api.ErrShape}, {[][]api.Rat{{"1"}, {"2"}}, []api.Rat{"x", "1", "1"}, api.ErrShape},
		{[][]api.Rat{{"1"}, {"2"}}, nil, api.ErrShape}, {[][]api.Rat{{}}, nil, api.ErrShape},
		{[][]api.Rat{{"1"}, {"2"}}, []api.Rat{"1", "-0"}, api.ErrForm}, {[][]api.Rat{{"1"}, {"2"}}, []api.Rat{"x", large}, api.ErrForm},
		{[][]api.Rat{{"1"}, {"2"}}, []api.Rat{large, "x"}, api.ErrLarge}, {[][]api.Rat{{}}, []api.Rat{""}, api.ErrForm},
	}
}

func TestErrorsOfEquations(t *testing.T) {
	for i, bad := range allBadEquations() {
		x, e := number.Solve(bad.m, bad.b)
		same(t, e, bad.e, "Solve", i)
		same(t, len(x), 0, "Solve", i)
		y, e := number.Refute(bad.m, bad.b)
		same(t, e, bad.e, "Refute", i)
		same(t, len(y), 0, "Refute", i)
		for _, y := range [][]api.Rat{nil, {"1"}, {"1", "x"}, {nines(601)}, {"0", "0"}} {
			same(t, number.CheckRefute(bad.m, bad.b, y), bad.e, "CheckRefute", i)
		}
	}
}

func TestSolve(t *testing.T) {
	for i, row := range []struct {
		m      [][]api.Rat
		b      []api.Rat
		wanted []api.Rat
		e      api.Errno
	}{
		{[][]api.Rat{{"3", "1"}, {"1", "-2"}}, []api.Rat{"9", "-4"}, []api.Rat{"2", "3"}, api.OK},
		{[][]api.Rat{{"0", "1"}, {"1", "0"}}, []api.Rat{"5", "-7/2"}, []api.Rat{"-7/2", "5"}, api.OK},
		{[][]api.Rat{{"0", "0", "2"}, {"0", "3", "0"}, {"5", "0", "0"}}, []api.Rat{"1", "1", "1"}, []api.Rat{"1/5", "1/3", "1/2"}, api.OK},
		{[][]api.Rat{{"2"}}, []api.Rat{"0"}, []api.Rat{"0"}, api.OK}, {[][]api.Rat{{"-2/3"}}, []api.Rat{"1/2"}, []api.Rat{"-3/4"}, api.OK},
		{[][]api.Rat{{"2"}, {"4"}}, []api.Rat{"1", "2"}, []api.Rat{"1/2"}, api.OK}, {[][]api.Rat{{"0"}, {"4"}, {"0"}}, []api.Rat{"0", "2", "0"}, []api.Rat{"1/2"}, api.OK},
		{[][]api.Rat{{"2"}, {"4"}}, []api.Rat{"1", "3"}, nil, api.ErrSingular}, {[][]api.Rat{{"0"}, {"4"}}, []api.Rat{"1", "3"}, nil, api.ErrSingular},
		{[][]api.Rat{{"1", "1"}}, []api.Rat{"3"}, nil, api.ErrSingular}, {[][]api.Rat{{"0"}}, []api.Rat{"0"}, nil, api.ErrSingular},
		{[][]api.Rat{{"0"}}, []api.Rat{"1"}, nil, api.ErrSingular}, {[][]api.Rat{{"1", "2"}, {"1/2", "1"}}, []api.Rat{"2", "1"}, nil, api.ErrSingular},
		{[][]api.Rat{{"1", "2"}, {"1/2", "1"}}, []api.Rat{"2", "2"}, nil, api.ErrSingular},
		{[][]api.Rat{{}}, []api.Rat{"0"}, nil, api.OK}, {[][]api.Rat{{}, {}}, []api.Rat{"0", "0"}, nil, api.OK}, {[][]api.Rat{{}, {}}, []api.Rat{"0", "1"}, nil, api.ErrSingular},
		{diagonal("1/3", "-2", "4/5"), []api.Rat{"1", "1", "0"}, []api.Rat{"3", "-1/2", "0"}, api.OK},
		{matrix(24, 24, "1"), slices.Repeat([]api.Rat{"1"}, 24), nil, api.ErrSingular},
	} {
		got, e := number.Solve(row.m, row.b)
		same(t, e, row.e, i)
		same(t, got, row.wanted, i)
	}
}

// Numbers on the way may be larger than the limit of digits, those of the solution may not.
func TestSolveAtTheLimit(t *testing.T) {
	long, small := api.Rat(ten(599)), api.Rat("1/"+ten(599))
	for i, row := range []struct {
		m      [][]api.Rat
		b      []api.Rat
		wanted []api.Rat
		e      api.Errno
	}{
		{diagonal(long, nines(600), small), []api.Rat{long, nines(600), small}, []api.Rat{"1", "1", "1"}, api.OK},
		{diagonal(small), []api.Rat{"1"}, []api.Rat{long}, api.OK}, {diagonal(small), []api.Rat{"10"}, nil, api.ErrLarge},
		{diagonal(long), []api.Rat{"1/10"}, nil, api.ErrLarge}, {diagonal("1", small), []api.Rat{"1", "-10"}, nil, api.ErrLarge},
		{append(diagonal(small), []api.Rat{"0"}), []api.Rat{"10", "1"}, nil, api.ErrSingular},
		{[][]api.Rat{{small, "0"}, {"0", "0"}}, []api.Rat{"10", "0"}, nil, api.ErrSingular},
		{[][]api.Rat{{long, small}, {small, long}}, []api.Rat{"0", "0"}, []api.Rat{"0", "0"}, api.OK},
	} {
		got, e := number.Solve(row.m, row.b)
		same(t, e, row.e, i)
		same(t, got, row.wanted, i)
	}
}

// Long coefficients with a short solution.
func TestSolveOfLongNumbers(t *testing.T) {
	source := seeded()
	for _, size := range []int{2, 3, 6, 24} {
		m, b, wanted := make([][]api.Rat, size), make([]api.Rat, size), make([]api.Rat, size)
		solution := make([]*big.Rat, size)
		for j := range solution {
			solution[j] = new(big.Rat).SetInt(randomInt(source, 6))
			wanted[j] = rat(solution[j])
		}
		for i := range m {
			sum := new(big.Rat)
			for j := range size {
				value := new(big.Rat).SetInt(randomInt(source, 3600/(size+6)))
				m[i] = append(m[i], rat(value))
				sum.Add(sum, value.Mul(value, solution[j]))
			}
			b[i] = rat(sum)
		}
		got, e := number.Solve(m, b)
		same(t, e, api.OK, size)
		same(t, got, wanted, size)
	}
}

// randomEquations returns small equations, of which many depend on others or contradict them.
func randomEquations(source *rand.Rand) ([][]*big.Rat, []*big.Rat) {
	rows, columns := 1+source.Intn(5), source.Intn(5)
	m, b := make([][]*big.Rat, rows), make([]*big.Rat, rows)
	fraction := func() *big.Rat {
		return big.NewRat(int64(source.Intn(7)-3), int64(1+source.Intn(3)))
	}
	for i := range m {
		b[i] = fraction()
		for range columns {
			m[i] = append(m[i], fraction())
		}
		if i == 0 || source.Intn(2) == 0 {
			continue
		}
		factor, other, tie := fraction(), source.Intn(i), source.Intn(3) > 0
		for j := range m[i] {
			m[i][j].Mul(factor, m[other][j])
		}
		if tie {
			b[i].Mul(factor, b[other])
		}
	}
	return m, b
}

// texts returns the texts of equations.
func texts(m [][]*big.Rat, b []*big.Rat) ([][]api.Rat, []api.Rat) {
	rows, list := make([][]api.Rat, len(m)), make([]api.Rat, len(b))
	for i := range m {
		for _, value := range m[i] {
			rows[i] = append(rows[i], rat(value))
		}
		list[i] = rat(b[i])
	}
	return rows, list
}

// ranks returns how many independent rows a matrix has, without and with the list, by the elimination of fractions.
func ranks(m [][]*big.Rat, b []*big.Rat) (int, int) {
	columns := len(m[0])
	rows := make([][]*big.Rat, len(m))
	for i := range m {
		for _, value := range append(slices.Clone(m[i]), b[i]) {
			rows[i] = append(rows[i], new(big.Rat).Set(value))
		}
	}
	rank, plain := 0, 0
	for column := 0; column <= columns; column++ {
		at := rank
		for at < len(rows) && rows[at][column].Sign() == 0 {
			at++
		}
		if column == columns {
			plain = rank
		}
		if at == len(rows) {
			continue
		}
		rows[rank], rows[at] = rows[at], rows[rank]
		for i := rank + 1; i < len(rows); i++ {
			factor := new(big.Rat).Quo(rows[i][column], rows[rank][column])
			for j := range rows[i] {
				rows[i][j].Sub(rows[i][j], new(big.Rat).Mul(factor, rows[rank][j]))
			}
		}
		rank++
	}
	return plain, rank
}

// combined returns the sum of rows, each one times its multiplier.
func combined(t *testing.T, rows [][]api.Rat, y []api.Rat, column int) *big.Rat {
	sum := new(big.Rat)
	for i, text := range y {
		sum.Add(sum, new(big.Rat).Mul(exact(t, text), exact(t, rows[i][column])))
	}
	return sum
}

// refutes tells whether multipliers refute equations, without the package.
func refutes(t *testing.T, m [][]api.Rat, b, y []api.Rat) bool {
	t.Helper()
	if len(y) != len(m) {
		return false
	}
	list := make([][]api.Rat, len(b))
	for i, text := range b {
		list[i] = []api.Rat{text}
	}
	for column := range m[0] {
		if combined(t, m, y, column).Sign() != 0 {
			return false
		}
	}
	return combined(t, list, y, 0).Sign() != 0
}

// solves tells whether numbers are a solution, without the package.
func solves(t *testing.T, m [][]api.Rat, b, x []api.Rat) bool {
	t.Helper()
	for i, row := range m {
		sum := new(big.Rat)
		for j, text := range row {
			sum.Add(sum, new(big.Rat).Mul(exact(t, text), exact(t, x[j])))
		}
		if sum.Cmp(exact(t, b[i])) != 0 {
			return false
		}
	}
	return true
}

func TestRandomEquations(t *testing.T) {
	source := seeded()
	met := map[api.Errno]int{}
	for range 3000 {
		bigM, bigB := randomEquations(source)
		m, b := texts(bigM, bigB)
		plain, extended := ranks(bigM, bigB)
		x, e := number.Solve(m, b)
		met[e]++
		if plain == len(m[0]) && plain == extended {
			same(t, e, api.OK, "Solve", m, b)
			same(t, len(x) == len(m[0]) && solves(t, m, b, x), true, "Solve", m, b)
		} else {
			same(t, e, api.ErrSingular, "Solve", m, b)
			same(t, len(x), 0, "Solve", m, b)
		}
		y, e := number.Refute(m, b)
		met[e]++
		if plain == extended {
			same(t, e, api.ErrNone, "Refute", m, b)
			same(t, len(y), 0, "Refute", m, b)
			continue
		}
		same(t, e, api.OK, "Refute", m, b)
		same(t, refutes(t, m, b, y), true, "Refute", m, b, y)
		same(t, number.CheckRefute(m, b, y), api.OK, "CheckRefute", m, b, y)
	}
	for _, e := range []api.Errno{api.OK, api.ErrSingular, api.ErrNone} {
		if met[e] < 100 {
			t.Errorf("the error %d was met %d times only", e, met[e])
		}
	}
}

func TestRefute(t *testing.T) {
	for i, row := range []struct {
		m [][]api.Rat
		b []api.Rat
		e api.Errno
	}{
		{[][]api.Rat{{"1", "1"}, {"2", "2"}}, []api.Rat{"1", "3"}, api.OK}, {[][]api.Rat{{"1", "1"}, {"2", "2"}}, []api.Rat{"1", "2"}, api.ErrNone},
		{[][]api.Rat{{"1", "1"}}, []api.Rat{"1"}, api.ErrNone}, {[][]api.Rat{{"0"}}, []api.Rat{"1/7"}, api.OK}, {[][]api.Rat{{"0"}}, []api.Rat{"0"}, api.ErrNone},
		{[][]api.Rat{{}}, []api.Rat{"1"}, api.OK}, {[][]api.Rat{{}}, []api.Rat{"0"}, api.ErrNone}, {[][]api.Rat{{}, {}}, []api.Rat{"0", "-1"}, api.OK},
		{[][]api.Rat{{"1"}, {"0"}, {"2"}}, []api.Rat{"1", "0", "2"}, api.ErrNone}, {[][]api.Rat{{"1"}, {"0"}, {"2"}}, []api.Rat{"1", "0", "5/2"}, api.OK},
		{[][]api.Rat{{"1"}, {"0"}, {"2"}}, []api.Rat{"1", "1", "2"}, api.OK}, {matrix(24, 24, "-1/3"), append(slices.Repeat([]api.Rat{"1"}, 23), "2"), api.OK},
		{matrix(24, 24, "-1/3"), slices.Repeat([]api.Rat{"1"}, 24), api.ErrNone}, {[][]api.Rat{{"1", "0"}, {"0", "1"}, {"1", "1"}}, []api.Rat{"1", "1", "3"}, api.OK},
		{[][]api.Rat{{nines(600)}, {nines(599)}}, []api.Rat{"1", "1"}, api.OK},
	} {
		y, e := number.Refute(row.m, row.b)
		same(t, e, row.e, i)
		if row.e == api.OK {
			same(t, refutes(t, row.m, row.b, y), true, i, y)
			same(t, number.CheckRefute(row.m, row.b, y), api.OK, i)
		} else {
			same(t, len(y), 0, i)
		}
	}
}

// It is free which refutation is returned, so with long numbers it may be one that is too large.
func TestRefuteOfLongNumbers(t *testing.T) {
	source := seeded()
	for i := range 40 {
		columns := i % 4
		m, b := make([][]api.Rat, columns+2), make([]api.Rat, columns+2)
		for i := range m {
			for range columns {
				m[i] = append(m[i], rat(randomRat(source, []int{40, 150, 600}[i%3])))
			}
			b[i] = rat(randomRat(source, 600))
		}
		y, e := number.Refute(m, b)
		if e == api.ErrLarge {
			same(t, len(y), 0, i)
			continue
		}
		same(t, e, api.OK, i)
		same(t, refutes(t, m, b, y), true, i)
		same(t, number.CheckRefute(m, b, y), api.OK, i)
	}
}

func TestCheckRefute(t *testing.T) {
	m, b := [][]api.Rat{{"1", "1"}, {"2", "2"}, {"0", "1"}}, []api.Rat{"1", "3", "5"}
	for _, row := range []struct {
		y []api.Rat
		e api.Errno
	}{
		{[]api.Rat{"2", "-1", "0"}, api.OK}, {[]api.Rat{"-1", "1/2", "0"}, api.OK}, {[]api.Rat{"-2/" + nines(600), "1/" + nines(600), "0"}, api.OK},
		{[]api.Rat{"0", "0", "0"}, api.ErrProof}, {[]api.Rat{"1", "-1", "0"}, api.ErrProof}, {[]api.Rat{"2", "-1", "1"}, api.ErrProof},
		{[]api.Rat{"-2", "-1", "0"}, api.ErrProof}, {[]api.Rat{"0", "0", "1"}, api.ErrProof}, {[]api.Rat{nines(600), "-1/" + nines(600), "7"}, api.ErrProof},
		{nil, api.ErrShape}, {[]api.Rat{"2", "-1"}, api.ErrShape}, {[]api.Rat{"2", "-1", "0", "0"}, api.ErrShape}, {[]api.Rat{"x", ""}, api.ErrShape},
		{[]api.Rat{"2", "-1", ""}, api.ErrForm}, {[]api.Rat{"1", "1", "-0"}, api.ErrForm}, {[]api.Rat{"2/4", nines(601), "0"}, api.ErrForm},
		{[]api.Rat{nines(601), "2/4", "0"}, api.ErrLarge},
	} {
		same(t, number.CheckRefute(m, b, row.y), row.e, row.y)
	}
	same(t, number.CheckRefute(m, []api.Rat{"1", "2", "5"}, []api.Rat{"2", "-1", "0"}), api.ErrProof, "0 = 0")
	same(t, number.CheckRefute([][]api.Rat{{}}, []api.Rat{"1"}, []api.Rat{"-3"}), api.OK, "no unknowns")
	same(t, number.CheckRefute([][]api.Rat{{}}, []api.Rat{"0"}, []api.Rat{"-3"}), api.ErrProof, "no unknowns")
	same(t, number.CheckRefute([][]api.Rat{{}}, []api.Rat{"1"}, []api.Rat{"0"}), api.ErrProof, "no unknowns")
}

func TestRandomMultipliers(t *testing.T) {
	source := seeded()
	met := 0
	for range 2000 {
		m, b := texts(randomEquations(source))
		y := make([]api.Rat, len(m))
		for i := range y {
			y[i] = rat(big.NewRat(int64(source.Intn(5)-2), int64(1+source.Intn(2))))
		}
		wanted := api.ErrProof
		if refutes(t, m, b, y) {
			wanted = api.OK
			met++
		}
		same(t, number.CheckRefute(m, b, y), wanted, m, b, y)
	}
	if met < 50 {
		t.Errorf("only %d refutations were met", met)
	}
}

func TestMemoryOfEquations(t *testing.T) {
	m, b := [][]api.Rat{{"0", "2"}, {"3", "1/2"}, {"3", "5/2"}}, []api.Rat{"4", "7", "1"}
	keptRows, keptList := [][]api.Rat{{"0", "2"}, {"3", "1/2"}, {"3", "5/2"}}, []api.Rat{"4", "7", "1"}
	y, _ := number.Refute(m, b)
	number.CheckRefute(m, b, y)
	number.Solve(m, b)
	number.Solve(m[:2], b[:2])
	for i := range y {
		y[i] = "x"
	}
	same(t, m, keptRows, "the matrix")
	same(t, b, keptList, "the list")
}
