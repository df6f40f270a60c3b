package number_test

import (
	"math"
	"math/big"
	"strings"
	"testing"

	"becket/api"
	"becket/number"
)

// The tests of P1.1.

func TestNames(t *testing.T) {
	for _, name := range []string{"a", "Z", "ann", "A", "z9", "a_", "x__1", "aZ09_", digits("b", 24)} {
		same(t, number.IsName(name), true, name)
	}
	for _, name := range []string{
		"", "_", "_a", "9", "9a", "a b", " a", "a ", "a-b", "a.b", "a/", "a:", "@a", "a@", "[", "a[", "a`", "a{", "a\n", "a\x00",
		"\u00e9", "a\u00e9", "a\u0663", "\uff41", "a\xff", "\xc3", digits("b", 25), digits("b", 23) + "\u00e9", digits("b", 1000),
	} {
		same(t, number.IsName(name), false, name)
	}
}

func TestCheckForm(t *testing.T) {
	for _, text := range []string{"0", "1", "-1", "10", "-7", "3/2", "-3/2", "1/2", "10/9", "123456789012345678901234567891/10"} {
		same(t, number.Check(api.Rat(text)), api.OK, text)
	}
	for _, text := range []string{
		"", "-", "/", "-/", "--1", "+1", "-0", "00", "01", "-01", "007", "1/", "/2", "-/2", "1/0", "1/1", "0/1", "0/0", "-0/5", "-0/1",
		"1/02", "1/00", "1/-2", "1/+2", "1/2/3", "1//2", "1/2/", " 1", "1 ", "1\n", "1 /2", "1.5", "1e3", "0x1", "1_0", "a", "1a", "a1",
		"\uff11", "\u0661", "1\xff", "\x00", "1/2\x00", "1/a", "1:", "1/;2",
	} {
		same(t, number.Check(api.Rat(text)), api.ErrForm, text)
	}
	for _, text := range []string{
		"0/2", "0/5", "2/4", "-2/4", "2/2", "6/3", "4/2", "10/15", "340282366920938463463374607431768211456/2",
		"18446744073709551616/18446744073709551618", digits("9", 600) + "/" + digits("3", 600), "0/" + ten(599),
		digits("9", 600) + "/" + digits("9", 600),
	} {
		same(t, number.Check(api.Rat(text)), api.ErrForm, "a common divisor", text)
	}
}

func TestCheckDigits(t *testing.T) {
	for _, text := range []string{
		digits("9", 600), "-" + digits("9", 600), "1/" + digits("9", 600), "-1/" + digits("9", 600), ten(599),
		ten(599) + "/" + digits("9", 600), "-" + digits("9", 600) + "/" + ten(599),
	} {
		same(t, number.Check(api.Rat(text)), api.OK, len(text))
	}
	for _, text := range []string{
		ten(600), "-" + ten(600), "1/" + ten(600), digits("9", 5000), ten(600) + "/" + digits("9", 601),
		"2/" + digits("4", 601), "0/" + ten(600), ten(600) + "/2", "3/" + digits("6", 100000),
	} {
		same(t, number.Check(api.Rat(text)), api.ErrLarge, "the digits come before common divisors", len(text))
	}
	for _, text := range []string{
		"0" + digits("9", 700), "-0/" + ten(600), ten(600) + "/0", ten(600) + "/1", ten(600) + "/", ten(600) + "x", "1/0" + ten(600), "+" + ten(600),
		"1/" + ten(600) + "/2",
	} {
		same(t, number.Check(api.Rat(text)), api.ErrForm, "the form comes before the digits", len(text))
	}
}

func TestCheckOfNumbers(t *testing.T) {
	source := seeded()
	for range 300 {
		top, bottom := randomInt(source, 600), new(big.Int).Abs(randomInt(source, 600))
		text := top.String() + "/" + bottom.String()
		if bottom.Cmp(big.NewInt(2)) < 0 {
			continue
		}
		wanted := api.ErrForm
		if new(big.Int).GCD(nil, nil, new(big.Int).Abs(top), bottom).Cmp(big.NewInt(1)) == 0 {
			wanted = api.OK
		}
		same(t, number.Check(api.Rat(text)), wanted, text)
	}
}

func TestOf(t *testing.T) {
	integers := []int{0, 1, -1, 2, -2, 6, -6, 15, 1000000, math.MaxInt, math.MinInt, math.MaxInt - 1, math.MinInt + 1, 1 << 40, 3 << 40}
	for _, top := range integers {
		for _, bottom := range integers {
			got, e := number.Of(top, bottom)
			if bottom == 0 {
				same(t, e, api.ErrZero, top, bottom)
				same(t, got, api.Rat(""), top, bottom)
				continue
			}
			wanted := new(big.Rat).SetFrac(big.NewInt(int64(top)), big.NewInt(int64(bottom)))
			sameLimited(t, got, e, wanted, top, bottom)
		}
	}
	got, _ := number.Of(15, -6)
	same(t, got, api.Rat("-5/2"))
}

// operations are the functions of two numbers with those of math/big.
var operations = []struct {
	name  string
	apply func(a, b api.Rat) (api.Rat, api.Errno)
	big   func(z, a, b *big.Rat) *big.Rat
}{
	{"Add", number.Add, (*big.Rat).Add},
	{"Sub", number.Sub, (*big.Rat).Sub},
	{"Mul", number.Mul, (*big.Rat).Mul},
	{"Div", number.Div, (*big.Rat).Quo},
}

func TestArithmetic(t *testing.T) {
	list := mixedRats(seeded())
	for _, operation := range operations {
		for _, a := range list {
			for _, b := range list {
				got, e := operation.apply(rat(a), rat(b))
				if operation.name == "Div" && b.Sign() == 0 {
					same(t, e, api.ErrZero, "Div")
					same(t, got, api.Rat(""), "Div")
					continue
				}
				sameLimited(t, got, e, operation.big(new(big.Rat), a, b), operation.name, shortened(rat(a)), shortened(rat(b)))
			}
		}
	}
}

func TestArithmeticOfExamples(t *testing.T) {
	for _, row := range []struct {
		operation int
		a, b      api.Rat
		wanted    api.Rat
	}{
		{0, "1/10", "1/15", "1/6"}, {0, "1/2", "1/2", "1"}, {0, "1/2", "-1/2", "0"}, {0, "-1", "1/3", "-2/3"},
		{1, "1/10", "1/15", "1/30"}, {1, "3", "3", "0"}, {1, "0", "5/7", "-5/7"},
		{2, "9/4", "-2/3", "-3/2"}, {2, "0", "-5/7", "0"}, {2, "-2", "-1/2", "1"},
		{3, "9/4", "-3/2", "-3/2"}, {3, "0", "-3", "0"}, {3, "-1", "-3", "1/3"}, {3, "4", "-2", "-2"},
	} {
		got, e := operations[row.operation].apply(row.a, row.b)
		same(t, e, api.OK, operations[row.operation].name, row.a, row.b)
		same(t, got, row.wanted, operations[row.operation].name, row.a, row.b)
	}
}

// Results at the limit of digits, and those that are far above it on the way alone.
func TestArithmeticAtTheLimit(t *testing.T) {
	long := api.Rat(digits("9", 600) + "/" + ten(599))
	inverse := api.Rat(ten(599) + "/" + digits("9", 600))
	for _, row := range []struct {
		operation int
		a, b      api.Rat
		wanted    api.Rat
		e         api.Errno
	}{
		{0, nines(600), "1", "", api.ErrLarge}, {0, nines(600), "0", nines(600), api.OK}, {0, nines(600), "-1", api.Rat(digits("9", 599) + "8"), api.OK},
		{0, "-" + nines(600), "-1", "", api.ErrLarge}, {1, "-" + nines(600), "1", "", api.ErrLarge}, {0, nines(600), "1/2", "", api.ErrLarge},
		{2, api.Rat(ten(300)), api.Rat(ten(299)), api.Rat(ten(599)), api.OK}, {2, api.Rat(ten(300)), api.Rat(ten(300)), "", api.ErrLarge},
		{3, api.Rat("1/" + ten(300)), api.Rat(ten(299)), api.Rat("1/" + ten(599)), api.OK}, {3, api.Rat("1/" + ten(300)), api.Rat(ten(300)), "", api.ErrLarge},
		{2, long, inverse, "1", api.OK}, {3, long, long, "1", api.OK}, {1, long, long, "0", api.OK}, {2, long, long, "", api.ErrLarge},
		{0, "1/" + api.Rat(ten(599)), "-1/" + api.Rat(ten(599)), "0", api.OK}, {0, "1/" + api.Rat(ten(599)), "1/" + nines(600), "", api.ErrLarge},
	} {
		got, e := operations[row.operation].apply(row.a, row.b)
		same(t, e, row.e, operations[row.operation].name, shortened(row.a), shortened(row.b))
		same(t, got, row.wanted, operations[row.operation].name, shortened(row.a), shortened(row.b))
	}
}

func TestOrder(t *testing.T) {
	list := mixedRats(seeded())
	for _, a := range list {
		for _, b := range list {
			got, e := number.Order(rat(a), rat(b))
			same(t, e, api.OK, "Order")
			same(t, got, a.Cmp(b), "Order", shortened(rat(a)), shortened(rat(b)))
		}
	}
	got, _ := number.Order("-1/2", "-1/3")
	same(t, got, -1, "Order")
}

func TestFloor(t *testing.T) {
	for _, row := range [][2]api.Rat{
		{"0", "0"}, {"7", "7"}, {"-7", "-7"}, {"5/2", "2"}, {"-5/2", "-3"}, {"1/3", "0"}, {"-1/3", "-1"}, {"-1/" + nines(600), "-1"},
		{"-" + nines(600), "-" + nines(600)},
	} {
		got, e := number.Floor(row[0])
		same(t, e, api.OK, row[0])
		same(t, got, row[1], row[0])
	}
	for _, a := range mixedRats(seeded()) {
		got, e := number.Floor(rat(a))
		wanted := new(big.Int).Div(a.Num(), a.Denom()) // Euclid's division: downwards, as the divisor is above 0
		same(t, e, api.OK, "Floor")
		same(t, got, api.Rat(wanted.String()), "Floor", shortened(rat(a)))
	}
}

// The first argument with an error decides, and an error of the arguments comes before all others.
func TestErrorsOfNumbers(t *testing.T) {
	for _, bad := range badNumbers() {
		got, e := number.Floor(bad.text)
		same(t, e, bad.e, "Floor")
		same(t, got, api.Rat(""), "Floor")
		for _, operation := range operations {
			for _, other := range []api.Rat{"1", "0", nines(600), "x", nines(601)} {
				got, e := operation.apply(bad.text, other)
				same(t, e, bad.e, operation.name)
				same(t, got, api.Rat(""), operation.name)
			}
			for _, other := range []api.Rat{"1", "0", nines(600)} {
				got, e := operation.apply(other, bad.text)
				same(t, e, bad.e, operation.name)
				same(t, got, api.Rat(""), operation.name)
			}
		}
		for _, pair := range [][2]api.Rat{{bad.text, "1"}, {"1", bad.text}, {bad.text, "x/"}, {bad.text, nines(601)}, {bad.text, bad.text}} {
			got, e := number.Order(pair[0], pair[1])
			same(t, e, bad.e, "Order")
			same(t, got, 0, "Order")
		}
	}
	_, e := number.Div("0", "0")
	same(t, e, api.ErrZero, "Div")
}

func TestHugeTexts(t *testing.T) {
	same(t, number.Check(api.Rat(strings.Repeat("9", 1<<20))), api.ErrLarge)
	same(t, number.Check(api.Rat(strings.Repeat("9/", 1<<20))), api.ErrForm)
	same(t, number.Check(api.Rat(strings.Repeat("0", 1<<20))), api.ErrForm)
	same(t, number.IsName(strings.Repeat("n", 1<<20)), false)
}
