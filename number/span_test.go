package number_test

import (
	"math/big"
	"testing"

	"becket/api"
	"becket/number"
)

// The tests of P1.2.

func span(low, high api.Rat) api.Span {
	return api.Span{Low: low, High: high}
}

// badSpans returns a span for each error, and for each of its places.
func badSpans() map[api.Span]api.Errno {
	return map[api.Span]api.Errno{
		{}:                                     api.ErrForm,
		span("", "1"):                          api.ErrForm,
		span("1", ""):                          api.ErrForm,
		span("2", "2/4"):                       api.ErrForm,
		span("2/4", nines(601)):                api.ErrForm,
		span(nines(601), "2/4"):                api.ErrLarge,
		span("1", "-"+nines(601)):              api.ErrLarge,
		span("2", "1"):                         api.ErrOrder,
		span("-1", "-2"):                       api.ErrOrder,
		span("1/2", "1/3"):                     api.ErrOrder,
		span("1", "-"+nines(600)):              api.ErrOrder,
		span("1/"+nines(599), "1/"+nines(600)): api.ErrOrder,
	}
}

func TestCheckSpan(t *testing.T) {
	for _, s := range []api.Span{
		span("1", "2"), span("1", "1"), span("-2", "-1"), span("0", "0"), span("-1/2", "-1/3"), span("1/3", "1/2"), span("-"+nines(600), nines(600)),
		span("1/"+nines(600), "1/"+nines(599)),
	} {
		same(t, number.CheckSpan(s), api.OK, s)
	}
	for s, e := range badSpans() {
		same(t, number.CheckSpan(s), e, s)
	}
}

// spanOperations are the functions of two spans with those of numbers.
var spanOperations = []struct {
	name  string
	apply func(a, b api.Span) (api.Span, api.Errno)
	big   func(z, a, b *big.Rat) *big.Rat
}{
	{"Plus", number.Plus, (*big.Rat).Add},
	{"Minus", number.Minus, (*big.Rat).Sub},
	{"Times", number.Times, (*big.Rat).Mul},
	{"Over", number.Over, (*big.Rat).Quo},
}

// wantedSpan returns the span of the results of the ends, or ErrLarge.
func wantedSpan(t *testing.T, a, b api.Span, operation func(z, a, b *big.Rat) *big.Rat) (api.Span, api.Errno) {
	var low, high *big.Rat
	for _, x := range []api.Rat{a.Low, a.High} {
		for _, y := range []api.Rat{b.Low, b.High} {
			result := operation(new(big.Rat), exact(t, x), exact(t, y))
			if low == nil || result.Cmp(low) < 0 {
				low = result
			}
			if high == nil || result.Cmp(high) > 0 {
				high = result
			}
		}
	}
	lowText, lowError := limited(low)
	highText, highError := limited(high)
	if lowError != api.OK || highError != api.OK {
		return api.Span{}, api.ErrLarge
	}
	return span(lowText, highText), api.OK
}

func TestSpanArithmetic(t *testing.T) {
	ends := []api.Rat{
		"-" + nines(600), "-" + api.Rat(ten(300)), "-7", "-3", "-3/2", "-1", "-1/2", "-1/" + nines(600), "0", "1/" + nines(600), "1/3", "1/2", "1", "4/3", "2", "4",
		api.Rat(ten(299)), nines(600),
	}
	var spans []api.Span
	for i, low := range ends {
		for _, high := range ends[i:] {
			spans = append(spans, span(low, high))
		}
	}
	for _, operation := range spanOperations {
		for i, a := range spans {
			for j, b := range spans {
				if (i*len(spans)+j)%3 != 0 { // a third of the pairs is enough
					continue
				}
				got, e := operation.apply(a, b)
				if operation.name == "Over" && exact(t, b.Low).Sign() <= 0 && exact(t, b.High).Sign() >= 0 {
					same(t, e, api.ErrZero, operation.name, b)
					same(t, got, api.Span{}, operation.name, b)
					continue
				}
				wanted, wantedError := wantedSpan(t, a, b, operation.big)
				same(t, e, wantedError, operation.name, a, b)
				same(t, got, wanted, operation.name, a, b)
			}
		}
	}
}

func TestSpanExamples(t *testing.T) {
	for _, row := range []struct {
		operation    int
		a, b, wanted api.Span
		e            api.Errno
	}{
		{0, span("-1", "2"), span("-3", "4"), span("-4", "6"), api.OK},
		{1, span("-1", "2"), span("-3", "4"), span("-5", "5"), api.OK},
		{2, span("-1", "2"), span("-3", "4"), span("-6", "8"), api.OK},
		{2, span("-2", "-1"), span("-4", "-3"), span("3", "8"), api.OK},
		{2, span("-2", "-1"), span("3", "4"), span("-8", "-3"), api.OK},
		{3, span("1", "2"), span("4", "8"), span("1/8", "1/2"), api.OK},
		{3, span("-1", "2"), span("-8", "-4"), span("-1/2", "1/4"), api.OK},
		{3, span("1", "2"), span("0", "8"), api.Span{}, api.ErrZero},
		{3, span("1", "2"), span("-8", "0"), api.Span{}, api.ErrZero},
		{3, span("1", "2"), span("-8", "1"), api.Span{}, api.ErrZero},
		{3, span("0", "0"), span("0", "0"), api.Span{}, api.ErrZero},
		{0, span("0", nines(600)), span("0", "1"), api.Span{}, api.ErrLarge},
		{0, span("-"+nines(600), "0"), span("-1", "0"), api.Span{}, api.ErrLarge},
		{1, span("0", "1"), span("-"+nines(600), "0"), api.Span{}, api.ErrLarge},
		{2, span("-1", "1"), span("-"+nines(600), nines(600)), span("-"+nines(600), nines(600)), api.OK},
	} {
		operation := spanOperations[row.operation]
		got, e := operation.apply(row.a, row.b)
		same(t, e, row.e, operation.name, row.a, row.b)
		same(t, got, row.wanted, operation.name, row.a, row.b)
	}
}

func TestErrorsOfSpans(t *testing.T) {
	good := []api.Span{span("1", "2"), span("0", "0"), span(nines(600), nines(600))}
	for bad, wanted := range badSpans() {
		for _, operation := range spanOperations {
			for _, other := range good {
				got, e := operation.apply(bad, other)
				same(t, e, wanted, operation.name, bad, other)
				same(t, got, api.Span{}, operation.name)
				got, e = operation.apply(other, bad)
				same(t, e, wanted, operation.name, other, bad)
				same(t, got, api.Span{}, operation.name)
			}
			for other := range badSpans() {
				_, e := operation.apply(bad, other)
				same(t, e, wanted, operation.name, bad, other)
			}
		}
		got, e := number.Compare(bad, good[0])
		same(t, e, wanted, "Compare", bad)
		same(t, got, 0, "Compare", bad)
		_, e = number.Compare(good[0], bad)
		same(t, e, wanted, "Compare", bad)
		_, e = number.Compare(bad, bad)
		same(t, e, wanted, "Compare", bad)
		_, e = number.Compare(bad, span("3", "1"))
		same(t, e, wanted, "Compare", bad)
	}
}

func TestCompare(t *testing.T) {
	for _, row := range []struct {
		a, b   api.Span
		wanted int
		e      api.Errno
	}{
		{span("1", "2"), span("3", "4"), -1, api.OK}, {span("3", "4"), span("1", "2"), 1, api.OK},
		{span("1", "2"), span("2", "3"), 0, api.ErrOpen}, {span("2", "3"), span("1", "2"), 0, api.ErrOpen},
		{span("1", "2"), span("1", "2"), 0, api.ErrOpen}, {span("2", "2"), span("1", "3"), 0, api.ErrOpen},
		{span("1", "3"), span("2", "2"), 0, api.ErrOpen}, {span("2", "2"), span("2", "3"), 0, api.ErrOpen},
		{span("2", "2"), span("1", "2"), 0, api.ErrOpen}, {span("1", "2"), span("1", "1"), 0, api.ErrOpen},
		{span("1", "4"), span("2", "3"), 0, api.ErrOpen}, {span("2", "3"), span("1", "4"), 0, api.ErrOpen},
		{span("1", "3"), span("2", "4"), 0, api.ErrOpen}, {span("2", "4"), span("1", "3"), 0, api.ErrOpen},
		{span("2", "2"), span("2", "2"), 0, api.OK}, {span("-1/2", "-1/2"), span("-1/2", "-1/2"), 0, api.OK},
		{span("1", "1"), span("2", "2"), -1, api.OK}, {span("2", "2"), span("1", "1"), 1, api.OK},
		{span("-2", "-1"), span("-1/2", "0"), -1, api.OK}, {span("0", "0"), span("-1/2", "-1/"+nines(600)), 1, api.OK},
	} {
		got, e := number.Compare(row.a, row.b)
		same(t, e, row.e, row.a, row.b)
		same(t, got, row.wanted, row.a, row.b)
	}
}

func TestRoot(t *testing.T) {
	for _, row := range []struct {
		a      api.Rat
		wanted api.Span
		e      api.Errno
	}{
		{"2", span("707/500", "283/200"), api.OK}, {"9/16", span("3/4", "3/4"), api.OK}, {"0", span("0", "0"), api.OK}, {"1", span("1", "1"), api.OK},
		{"1/10000000", span("0", "1/1000"), api.OK}, {"1/1000000", span("1/1000", "1/1000"), api.OK}, {"1/1000001", span("0", "1/1000"), api.OK},
		{"2/1000001", span("1/1000", "1/500"), api.OK}, {"4/3", span("577/500", "231/200"), api.OK}, {"3/4", span("433/500", "867/1000"), api.OK},
		{"999999/1000000", span("999/1000", "1"), api.OK}, {"1000001/1000000", span("1", "1001/1000"), api.OK},
		{"-1", api.Span{}, api.ErrRange}, {"-1/" + nines(600), api.Span{}, api.ErrRange}, {"-2/4", api.Span{}, api.ErrForm},
		{"", api.Span{}, api.ErrForm}, {"-" + nines(601), api.Span{}, api.ErrLarge},
		{api.Rat(ten(598)), span(api.Rat(ten(299)), api.Rat(ten(299))), api.OK},
		{api.Rat("1/" + ten(598)), span(api.Rat("1/"+ten(299)), api.Rat("1/"+ten(299))), api.OK},
	} {
		got, e := number.Root(row.a)
		same(t, e, row.e, shortened(row.a))
		same(t, got, row.wanted, shortened(row.a))
	}
}

// wantedRoot follows the definition with the integer root of math/big.
func wantedRoot(a *big.Rat) api.Span {
	top, bottom := new(big.Int).Sqrt(a.Num()), new(big.Int).Sqrt(a.Denom())
	root := new(big.Rat).SetFrac(top, bottom)
	if new(big.Rat).Mul(root, root).Cmp(a) == 0 {
		return span(rat(root), rat(root))
	}
	million := new(big.Int).Mul(a.Num(), big.NewInt(1_000_000))
	n := new(big.Int).Sqrt(million.Div(million, a.Denom()))
	thousand := big.NewInt(1000)
	next := new(big.Int).Add(n, big.NewInt(1))
	return span(rat(new(big.Rat).SetFrac(n, thousand)), rat(new(big.Rat).SetFrac(next, thousand)))
}

func TestRootOfMany(t *testing.T) {
	source := seeded()
	list := mixedRats(source)
	for _, most := range []int{1, 3, 10, 19, 20, 100, 300} {
		for range 20 {
			base := randomRat(source, most)
			square := new(big.Rat).Mul(base, base)
			list = append(list, square, new(big.Rat).Add(square, big.NewRat(1, 1)), new(big.Rat).Sub(square, big.NewRat(1, 1000000)))
		}
	}
	for i := range int64(200) {
		list = append(list, big.NewRat(i, 1), big.NewRat(i, 7), big.NewRat(i*i+1, 1000000))
	}
	for _, a := range list {
		text, e := limited(a)
		if e != api.OK {
			continue
		}
		got, e := number.Root(text)
		if a.Sign() < 0 {
			same(t, e, api.ErrRange, shortened(text))
			same(t, got, api.Span{}, shortened(text))
			continue
		}
		same(t, e, api.OK, shortened(text))
		same(t, got, wantedRoot(a), shortened(text))
	}
}

// arctangent returns 10 to the power 40 times the arc tangent of 1 / n, a little less or more.
func arctangent(n int64) *big.Int {
	sum, power := new(big.Int), new(big.Int).Exp(big.NewInt(10), big.NewInt(40), nil)
	power.Div(power, big.NewInt(n))
	for i := int64(1); power.Sign() > 0; i += 2 {
		term := new(big.Int).Div(power, big.NewInt(i))
		if i%4 == 3 {
			term.Neg(term)
		}
		sum.Add(sum, term)
		power.Div(power, big.NewInt(n*n))
	}
	return sum
}

// bigPi returns 10 to the power 40 times pi, right to about 37 decimals, by Machin's formula.
func bigPi() *big.Int {
	pi := new(big.Int).Mul(big.NewInt(16), arctangent(5))
	return pi.Sub(pi, new(big.Int).Mul(big.NewInt(4), arctangent(239)))
}

func TestPi(t *testing.T) {
	for k := 1; k <= number.MaxDecimals; k++ {
		scale := new(big.Int).Exp(big.NewInt(10), big.NewInt(int64(k)), nil)
		cut := new(big.Int).Exp(big.NewInt(10), big.NewInt(int64(40-k)), nil)
		low := new(big.Int).Div(bigPi(), cut)
		high := new(big.Int).Add(low, big.NewInt(1))
		got, e := number.Pi(k)
		same(t, e, api.OK, k)
		same(t, got, span(rat(new(big.Rat).SetFrac(low, scale)), rat(new(big.Rat).SetFrac(high, scale))), k)
	}
	for _, k := range []int{0, -1, 31, 32, -1 << 62, 1 << 62} {
		got, e := number.Pi(k)
		same(t, e, api.ErrRange, k)
		same(t, got, api.Span{}, k)
	}
}
