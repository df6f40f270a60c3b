package exact_test

import (
	"math"
	"math/big"
	"math/rand"
	"strings"
	"testing"

	"becket/api"
	"becket/exact"
)

// The tests compare with math/big, which knows nothing of the package. Those of package number test it further.

func same[T comparable](t *testing.T, got, wanted T, what ...any) {
	t.Helper()
	if got != wanted {
		t.Errorf("%.200v: got %.200v, want %.200v", what, got, wanted)
	}
}

// integer returns the integer of a text with up to 600 digits.
func integer(t *testing.T, text string) exact.Integer {
	t.Helper()
	value, e := exact.Read(api.Rat(text))
	same(t, e, api.OK, text)
	return value.Top()
}

// text returns the text of an integer that fits into the limit.
func text(t *testing.T, a exact.Integer) string {
	t.Helper()
	written, e := exact.Write(exact.Whole(a))
	same(t, e, api.OK)
	return string(written)
}

// integers returns small integers, those at the ends of words, and long ones.
func integers() []*big.Int {
	source := rand.New(rand.NewSource(39373))
	list := []*big.Int{big.NewInt(0), big.NewInt(1), big.NewInt(2), big.NewInt(7), big.NewInt(math.MaxInt64)}
	for _, bits := range []uint{63, 64, 65, 127, 128, 900} {
		power := new(big.Int).Lsh(big.NewInt(1), bits)
		list = append(list, power, new(big.Int).Sub(power, big.NewInt(1)), new(big.Int).Rand(source, power))
	}
	for _, value := range list[1:] {
		list = append(list, new(big.Int).Neg(value))
	}
	return list
}

func TestIntegers(t *testing.T) {
	for _, x := range integers() {
		a := integer(t, x.String())
		same(t, a.IsZero(), x.Sign() == 0, x)
		same(t, a.IsNegative(), x.Sign() < 0, x)
		same(t, text(t, a.Negated()), new(big.Int).Neg(x).String(), x)
		for _, y := range integers() {
			b := integer(t, y.String())
			same(t, text(t, a.Plus(b)), new(big.Int).Add(x, y).String(), x, y)
			same(t, text(t, a.Minus(b)), new(big.Int).Sub(x, y).String(), x, y)
			same(t, text(t, a.Times(b)), new(big.Int).Mul(x, y).String(), x, y)
			same(t, text(t, a.Times(b).Exact(b)), wantedExact(x, y), x, y)
			same(t, a.Compare(b), x.Cmp(y), x, y)
			common := new(big.Int).GCD(nil, nil, new(big.Int).Abs(x), new(big.Int).Abs(y))
			same(t, text(t, exact.CommonDivisor(a, b)), common.String(), x, y)
			multiple := new(big.Int).Mul(x, y)
			if common.Sign() > 0 {
				multiple.Quo(multiple.Abs(multiple), common)
			}
			same(t, text(t, exact.CommonMultiple(a, b)), multiple.String(), x, y)
		}
	}
}

// wantedExact returns the quotient of x y by y, which is 0 for 0.
func wantedExact(x, y *big.Int) string {
	if y.Sign() == 0 {
		return "0"
	}
	return x.String()
}

func TestDivide(t *testing.T) {
	for _, x := range integers() {
		for _, y := range integers() {
			quotient, rest := integer(t, x.String()).Divide(integer(t, y.String()))
			wanted, wantedRest := new(big.Int), new(big.Int)
			if y.Sign() != 0 {
				wanted.DivMod(x, y, wantedRest) // the rest is from 0 on, also if y is below 0
				if y.Sign() < 0 && wantedRest.Sign() > 0 {
					wanted.Sub(wanted, big.NewInt(1))
					wantedRest.Add(wantedRest, y)
				}
			}
			same(t, text(t, quotient), wanted.String(), x, y)
			same(t, text(t, rest), wantedRest.String(), x, y)
		}
	}
}

func TestInts(t *testing.T) {
	for _, value := range []int{0, 1, -1, 999999999, math.MaxInt, -math.MaxInt} {
		got, fits := exact.IntegerOf(value).Int()
		same(t, got, value)
		same(t, fits, true, value)
	}
	same(t, text(t, exact.IntegerOf(math.MinInt)), "-9223372036854775808")
	for _, x := range []string{"9223372036854775808", "-9223372036854775808", "18446744073709551616", "-18446744073709551617", strings.Repeat("9", 600)} {
		got, fits := integer(t, x).Int()
		same(t, got, 0, x)
		same(t, fits, false, x)
	}
}

func TestRoots(t *testing.T) {
	for _, x := range integers() {
		wanted := "0"
		if x.Sign() > 0 {
			wanted = new(big.Int).Sqrt(x).String()
		}
		same(t, text(t, integer(t, x.String()).Root()), wanted, x)
	}
}

func TestFractions(t *testing.T) {
	for _, row := range []struct {
		a              api.Rat
		floor, ceiling string
	}{
		{"0", "0", "0"}, {"7", "7", "7"}, {"-7", "-7", "-7"}, {"1/2", "0", "1"}, {"-1/2", "-1", "0"}, {"7/3", "2", "3"}, {"-7/3", "-3", "-2"},
	} {
		a, e := exact.Read(row.a)
		same(t, e, api.OK)
		same(t, text(t, a.Floor()), row.floor, row.a)
		same(t, text(t, a.Ceiling()), row.ceiling, row.a)
		back, e := exact.Write(exact.Quotient(a.Top(), a.Bottom()))
		same(t, e, api.OK)
		same(t, back, row.a)
		opposite, e := exact.Write(a.Negated().Negated().Minus(a).Minus(a))
		same(t, e, api.OK)
		minus, _ := exact.Write(a.Negated())
		same(t, opposite, minus)
	}
}

func TestRootsOfFractions(t *testing.T) {
	for _, row := range []struct{ a, low, high api.Rat }{
		{"0", "0", "0"}, {"1", "1", "1"}, {"9/16", "3/4", "3/4"}, {"2", "707/500", "283/200"}, {"1/2", "707/1000", "177/250"}, {"1/10000000", "0", "1/1000"},
		{"4/3", "577/500", "231/200"}, {"3/4", "433/500", "867/1000"}, {"1/1000000", "1/1000", "1/1000"},
	} {
		low, high := exact.Value(row.a).Root()
		same(t, low.Compare(exact.Value(row.low)), 0, row)
		same(t, high.Compare(exact.Value(row.high)), 0, row)
	}
	long := exact.Value(api.Rat(strings.Repeat("9", 600)))
	low, high := long.Times(long).Root()
	same(t, low.Compare(long), 0)
	same(t, high.Compare(long), 0)
	low, high = long.Times(long).Plus(exact.Ratio(1, 1)).Root()
	same(t, low.Compare(long), 0)
	same(t, high.Minus(long).Compare(exact.Ratio(1, 1000)), 0)
}

// fractions returns the quotients of some integers by others.
func fractions() []*big.Rat {
	var list []*big.Rat
	for i, x := range integers() {
		for k, y := range integers() {
			if y.Sign() > 0 && (i+k)%5 == 0 {
				list = append(list, new(big.Rat).SetFrac(x, y))
			}
		}
	}
	return list
}

func TestProducts(t *testing.T) {
	for _, x := range fractions() {
		for _, y := range fractions() {
			product := exact.Value(api.Rat(x.RatString())).Times(exact.Value(api.Rat(y.RatString())))
			got, e := exact.Write(product)
			same(t, e, api.OK, x, y)
			same(t, got, api.Rat(new(big.Rat).Mul(x, y).RatString()), x, y)
		}
	}
}

func TestSigns(t *testing.T) {
	for _, row := range []struct {
		top, bottom int
		text        api.Rat
		sign        int
	}{{0, 5, "0", 0}, {0, -5, "0", 0}, {3, 0, "0", 0}, {6, 4, "3/2", 1}, {-6, 4, "-3/2", -1}, {6, -4, "-3/2", -1}, {-6, -3, "2", 1}, {1, math.MinInt, "-1/9223372036854775808", -1}} {
		a := exact.Ratio(row.top, row.bottom)
		written, e := exact.Write(a)
		same(t, e, api.OK)
		same(t, written, row.text, row)
		same(t, a.Sign(), row.sign, row)
		same(t, exact.Value(row.text).Compare(a), 0, row)
	}
	for _, text := range []api.Rat{"", "x", "2/4", api.Rat(strings.Repeat("9", 601))} {
		same(t, exact.Value(text).Sign(), 0, text)
	}
}

// What a number has too much digits for its text, a sum may take away again.
func TestNoLimitOnTheWay(t *testing.T) {
	long, _ := exact.Read(api.Rat(strings.Repeat("9", 600)))
	one := exact.Whole(exact.IntegerOf(1))
	for _, a := range []exact.Fraction{long.Plus(one), long.Times(long), one.Over(long.Times(long)), long.Negated().Minus(one)} {
		written, e := exact.Write(a)
		same(t, written, "", "too long")
		same(t, e, api.ErrLarge)
	}
	back, e := exact.Write(long.Plus(one).Times(long).Over(long).Minus(one))
	same(t, string(back), strings.Repeat("9", 600))
	same(t, e, api.OK)
}

// The zero values are 0, and nothing panics on them.
func TestZeroValues(t *testing.T) {
	var zero exact.Integer
	var none exact.Fraction
	five := exact.Whole(exact.IntegerOf(5))
	for i, a := range []exact.Fraction{
		none, exact.Quotient(exact.IntegerOf(3), zero), five.Over(none), none.Over(none), none.Times(five), none.Over(five), none.Plus(none), none.Distance(none),
	} {
		written, e := exact.Write(a)
		same(t, written, "0", i)
		same(t, e, api.OK, i)
		same(t, a.IsZero(), true, i)
		same(t, text(t, a.Bottom()), "1", i)
		same(t, a.Compare(five), -1, i)
		same(t, text(t, a.Floor())+text(t, a.Ceiling())+text(t, a.Top().Root()), "000", i)
	}
	written, _ := exact.Write(none.Plus(five).Distance(five.Plus(five)))
	same(t, written, "5")
	same(t, text(t, exact.CommonDivisor(zero, zero))+text(t, exact.CommonMultiple(zero, exact.IntegerOf(3))), "00")
}
