package yarn_test

import (
	"math"
	"math/big"
	"math/rand"
	"testing"

	"becket/api"
	"becket/yarn"
)

// The tests of P2.1 and P2.3.

func direct(length, mass int) yarn.System {
	return yarn.System{Length: length, Mass: mass, Direct: true}
}

func indirect(length, mass int) yarn.System {
	return yarn.System{Length: length, Mass: mass}
}

func randomSystem(source *rand.Rand) yarn.System {
	part := func() int {
		if source.Intn(3) == 0 {
			return 1 + source.Intn(9)
		}
		return 1 + source.Intn(api.MaxNumber)
	}
	return yarn.System{Length: part(), Mass: part(), Direct: source.Intn(2) == 0}
}

// unit returns the density of the count 1.
func unit(s yarn.System) *big.Rat {
	return big.NewRat(int64(s.Mass), int64(s.Length))
}

// wantedDensity returns the density of a count, wantedCount the count of a density.
func wantedDensity(s yarn.System, count *big.Rat) *big.Rat {
	if s.Direct {
		return new(big.Rat).Mul(count, unit(s))
	}
	return new(big.Rat).Quo(unit(s), count)
}

func wantedCount(s yarn.System, density *big.Rat) *big.Rat {
	if s.Direct {
		return new(big.Rat).Quo(density, unit(s))
	}
	return new(big.Rat).Quo(unit(s), density)
}

// badSystems returns systems with an error.
func badSystems() []yarn.System {
	return []yarn.System{
		{}, direct(0, 1), direct(1, 0), indirect(-1, 1), indirect(1, -1), direct(api.MaxNumber+1, 1),
		indirect(1, api.MaxNumber+1), direct(math.MinInt, 1), direct(1, math.MinInt), direct(math.MaxInt, math.MaxInt),
	}
}

func TestCheckSystem(t *testing.T) {
	for _, s := range []yarn.System{direct(1, 1), indirect(1, 1), direct(api.MaxNumber, api.MaxNumber), indirect(1000, 1)} {
		same(t, yarn.CheckSystem(s), api.OK, s)
	}
	for _, s := range badSystems() {
		same(t, yarn.CheckSystem(s), api.ErrRange, s)
	}
}

func TestDensitiesAndCounts(t *testing.T) {
	for _, row := range []struct {
		s              yarn.System
		count, density api.Rat
	}{
		{direct(1000, 1), "50", "1/20"}, {indirect(1000, 1000), "20", "1/20"}, {direct(1000, 1), "100", "1/10"},
		{direct(9000, 1), "3/2", "1/6000"}, {indirect(768, 453), "4/3", "453/1024"}, {indirect(1, 1), nines(600), "1/" + nines(600)},
		{direct(7, 7), nines(600), nines(600)}, {direct(api.MaxNumber, 1), "1", "1/999999999"},
	} {
		density, e := yarn.Density(row.s, row.count)
		same(t, []any{density, e}, []any{row.density, api.OK}, "Density", row.s, row.count)
		count, e := yarn.Count(row.s, row.density)
		same(t, []any{count, e}, []any{row.count, api.OK}, "Count", row.s, row.density)
	}
	for _, row := range []struct {
		from, to      yarn.System
		count, wanted api.Rat
	}{
		{direct(1000, 1), indirect(1000, 1000), "50", "20"}, {indirect(1000, 1000), direct(1000, 1), "20", "50"},
		{direct(1000, 1), direct(9000, 1), "10", "90"}, {indirect(1000, 500), indirect(1000, 1000), "3", "6"},
	} {
		count, e := yarn.Convert(row.from, row.to, row.count)
		same(t, []any{count, e}, []any{row.wanted, api.OK}, "Convert", row.from, row.to, row.count)
	}
}

func TestRandomCounts(t *testing.T) {
	source := seeded()
	for i := range 600 {
		from, to := randomSystem(source), randomSystem(source)
		count := positiveRat(source, []int{2, 20, 595, 600}[i%4])
		density, e := yarn.Density(from, rat(count))
		sameLimited(t, density, e, wantedDensity(from, count), "Density", from, count)
		back, e := yarn.Count(from, rat(count))
		sameLimited(t, back, e, wantedCount(from, count), "Count", from, count)
		converted, e := yarn.Convert(from, to, rat(count))
		sameLimited(t, converted, e, wantedCount(to, wantedDensity(from, count)), "Convert", from, to, count)
	}
}

// A density that has too many digits is no error of a count that has not.
func TestConvertBeyondTheLimit(t *testing.T) {
	for _, s := range []yarn.System{direct(1, api.MaxNumber), indirect(api.MaxNumber, 1), direct(api.MaxNumber, 1), indirect(1, 7)} {
		for _, count := range []api.Rat{nines(600), "1/" + nines(600), ten(599), "1/" + ten(599)} {
			converted, e := yarn.Convert(s, s, count)
			same(t, []any{converted, e}, []any{count, api.OK}, s)
		}
	}
	_, e := yarn.Density(direct(1, api.MaxNumber), nines(600))
	same(t, e, api.ErrLarge, "Density")
	_, e = yarn.Count(indirect(api.MaxNumber-1, 1), nines(600))
	same(t, e, api.ErrLarge, "Count")
	_, e = yarn.Convert(direct(1, 1), direct(10, 1), nines(600))
	same(t, e, api.ErrLarge, "Convert")
}

func TestErrorsOfCounts(t *testing.T) {
	good := direct(1000, 1)
	for _, bad := range append(badSystems(), good) {
		for _, text := range append(notPositive(), badNumber{"1", api.OK}) {
			wanted := text.e
			if bad != good {
				wanted = api.ErrRange
			}
			density, e1 := yarn.Density(bad, text.text)
			count, e2 := yarn.Count(bad, text.text)
			from, e3 := yarn.Convert(bad, good, text.text)
			to, e4 := yarn.Convert(good, bad, text.text)
			same(t, []any{e1, e2, e3, e4}, []any{wanted, wanted, wanted, wanted}, bad, text)
			if wanted != api.OK {
				same(t, density+count+from+to, api.Rat(""), bad, text)
			}
		}
	}
}

func TestMassAndLength(t *testing.T) {
	for _, row := range []struct{ density, length, mass api.Rat }{
		{"1/20", "500", "25"}, {"1/20", "0", "0"}, {"3/7", "7/3", "1"}, {nines(600), "1/" + nines(600), "1"}, {"1/" + nines(600), "1", "1/" + nines(600)},
	} {
		y := thread()
		y.Density = row.density
		mass, e := yarn.Mass(y, row.length)
		same(t, []any{mass, e}, []any{row.mass, api.OK}, "Mass", row.density, row.length)
		length, e := yarn.Length(y, row.mass)
		same(t, []any{length, e}, []any{row.length, api.OK}, "Length", row.density, row.mass)
	}
	source := seeded()
	for i := range 300 {
		density, amount := positiveRat(source, []int{3, 30, 300, 600}[i%4]), randomRat(source, []int{3, 305, 600}[i%3])
		y := thread()
		y.Density = rat(density)
		mass, e := yarn.Mass(y, rat(amount))
		sameLimited(t, mass, e, new(big.Rat).Mul(density, amount), "Mass", density, amount)
		length, e := yarn.Length(y, rat(amount))
		sameLimited(t, length, e, new(big.Rat).Quo(amount, density), "Length", density, amount)
	}
}

func TestErrorsOfMassAndLength(t *testing.T) {
	for _, bad := range notFromZero() {
		mass, e1 := yarn.Mass(thread(), bad.text)
		length, e2 := yarn.Length(thread(), bad.text)
		bobbins, e3 := yarn.Bobbins(thread(), 1, bad.text)
		same(t, []any{mass, length, bobbins, e1, e2, e3}, []any{api.Rat(""), api.Rat(""), 0, bad.e, bad.e, bad.e}, bad)
	}
	for i, bad := range badYarns() {
		for _, text := range []api.Rat{"1", "x", "-1"} {
			mass, e1 := yarn.Mass(bad.y, text)
			length, e2 := yarn.Length(bad.y, text)
			bobbins, e3 := yarn.Bobbins(bad.y, 0, text)
			same(t, []any{mass, length, bobbins, e1, e2, e3}, []any{api.Rat(""), api.Rat(""), 0, bad.e, bad.e, bad.e}, i, text)
		}
	}
	for _, capacity := range []int{0, -1, api.MaxNumber + 1, math.MinInt, math.MaxInt} {
		for _, text := range []api.Rat{"1", "x", "-1", nines(600)} {
			bobbins, e := yarn.Bobbins(thread(), capacity, text)
			same(t, []any{bobbins, e}, []any{0, api.ErrRange}, capacity, text)
		}
	}
}

func TestBobbins(t *testing.T) {
	for _, row := range []struct {
		density  api.Rat
		capacity int
		length   api.Rat
		wanted   int
		e        api.Errno
	}{
		{"1/20", 10, "500", 3, api.OK}, {"1/20", 10, "200", 1, api.OK}, {"1/20", 10, "401/2", 2, api.OK}, {"1/20", 10, "0", 0, api.OK},
		{"1/20", 10, "1/" + nines(600), 1, api.OK}, {"1", 1, "999999999", 999999999, api.OK}, {"1", 1, "1000000000", 0, api.ErrLarge},
		{"1", 1, "1999999999/2", 0, api.ErrLarge}, {"1", 1, "1999999997/2", 999999999, api.OK}, {"1", 999999999, "999999999000000000", 0, api.ErrLarge},
		{"1", 999999999, "999999998000000001", 999999999, api.OK}, {"1", 999999999, "999999999", 1, api.OK}, {"1", 999999999, "1000000000", 2, api.OK},
		{nines(600), 1, nines(600), 0, api.ErrLarge}, {"1", 1, "18446744073709551617", 0, api.ErrLarge}, {"1", 1, "9223372036854775808", 0, api.ErrLarge},
		// The mass has 1200 digits in both parts, or in one.
		{"1/" + nines(600), 1, "1/" + ten(599), 1, api.OK}, {nines(600) + "/" + ten(599), 1, nines(600) + "/" + ten(599), 100, api.OK},
		{ten(599) + "/" + nines(600), 999999999, ten(599) + "/" + nines(600), 1, api.OK},
	} {
		y := thread()
		y.Density = row.density
		bobbins, e := yarn.Bobbins(y, row.capacity, row.length)
		same(t, []any{bobbins, e}, []any{row.wanted, row.e}, row)
	}
	source := seeded()
	for range 300 {
		density, length, capacity := positiveRat(source, 4), randomRat(source, 6), 1+source.Intn(50)
		y := thread()
		y.Density = rat(density)
		bobbins, e := yarn.Bobbins(y, capacity, rat(length))
		mass := new(big.Rat).Mul(density, length)
		if e == api.ErrLarge {
			same(t, mass.Cmp(big.NewRat(int64(capacity)*api.MaxNumber, 1)) > 0, true, density, length, capacity)
			continue
		}
		same(t, mass.Cmp(big.NewRat(int64(capacity)*int64(bobbins), 1)) <= 0, true, "enough", density, length, capacity)
		same(t, bobbins == 0 || mass.Cmp(big.NewRat(int64(capacity)*int64(bobbins-1), 1)) > 0, true, "not too many", density, length, capacity)
		same(t, bobbins == 0, length.Sign() == 0, "none", density, length, capacity)
	}
}
