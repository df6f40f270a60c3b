package yarn_test

import (
	"math/big"
	"math/rand"
	"reflect"
	"strings"
	"testing"

	"becket/api"
	"becket/yarn"
)

// The tests use the exported functions of the package alone, and compare with math/big and with plain models.

// same fails the test if a result is not the wanted one; nil and empty slices are equivalent.
func same(t *testing.T, got, wanted any, what ...any) {
	t.Helper()
	g, w := reflect.ValueOf(got), reflect.ValueOf(wanted)
	if g.Kind() == reflect.Slice && g.Len() == 0 && w.Kind() == reflect.Slice && w.Len() == 0 {
		return
	}
	if !reflect.DeepEqual(got, wanted) {
		t.Errorf("%.200v: got %.200v, want %.200v", what, got, wanted)
	}
}

// sameState compares states; nil and empty lists are equivalent.
func sameState(t *testing.T, got, wanted yarn.State, what ...any) {
	t.Helper()
	same(t, got.Day, wanted.Day, what...)
	same(t, got.Lots, wanted.Lots, what...)
	same(t, got.Holds, wanted.Holds, what...)
}

// rat returns the text of a number.
func rat(number *big.Rat) api.Rat {
	return api.Rat(number.RatString())
}

// sameLimited fails the test if a number and its error are not those of a result, which is ErrLarge if it is too long.
func sameLimited(t *testing.T, got api.Rat, e api.Errno, wanted *big.Rat, what ...any) {
	t.Helper()
	text, code := rat(wanted), api.OK
	if len(strings.TrimPrefix(wanted.Num().String(), "-")) > api.MaxDigits || len(wanted.Denom().String()) > api.MaxDigits {
		text, code = "", api.ErrLarge
	}
	same(t, e, code, what...)
	same(t, got, text, what...)
}

// nines returns the greatest integer with so many digits.
func nines(count int) api.Rat {
	return api.Rat(strings.Repeat("9", count))
}

// ten returns a power of ten.
func ten(exponent int) api.Rat {
	return api.Rat("1" + strings.Repeat("0", exponent))
}

// seeded returns a source of numbers that is the same in each run.
func seeded() *rand.Rand {
	return rand.New(rand.NewSource(39373))
}

// randomRat returns a number from 0 on whose parts have up to so many digits.
func randomRat(source *rand.Rand, most int) *big.Rat {
	part := func() *big.Int {
		limit := new(big.Int).Exp(big.NewInt(10), big.NewInt(int64(1+source.Intn(most))), nil)
		return limit.Rand(source, limit)
	}
	bottom := part()
	if bottom.Sign() == 0 || source.Intn(4) == 0 {
		bottom.SetInt64(1)
	}
	return new(big.Rat).SetFrac(part(), bottom)
}

// positiveRat returns such a number above 0.
func positiveRat(source *rand.Rand, most int) *big.Rat {
	for {
		if number := randomRat(source, most); number.Sign() > 0 {
			return number
		}
	}
}

// badNumber is a text with the error that a function has to return for it.
type badNumber struct {
	text api.Rat
	e    api.Errno
}

// badNumbers returns texts that are no numbers.
func badNumbers() []badNumber {
	return []badNumber{
		{"", api.ErrForm}, {"x", api.ErrForm}, {"2/4", api.ErrForm}, {"-0", api.ErrForm}, {"1/0", api.ErrForm},
		{nines(601), api.ErrLarge}, {"1/" + nines(601), api.ErrLarge}, {"-" + nines(601), api.ErrLarge},
	}
}

// notFromZero returns texts that are no numbers from 0 on, and notPositive those that are no numbers above 0.
func notFromZero() []badNumber {
	return append(badNumbers(), badNumber{"-1", api.ErrRange}, badNumber{"-1/" + nines(600), api.ErrRange})
}

func notPositive() []badNumber {
	return append(notFromZero(), badNumber{"0", api.ErrRange})
}

// badNames returns texts that are no names; an empty one is none, either.
func badNames() []string {
	return []string{"1", "_a", "a b", "a-b", "é", "\xff", strings.Repeat("a", 25)}
}

// fault makes something wrong, so that the error has to be returned.
type fault[T any] struct {
	make func(x *T)
	e    api.Errno
}

// checkFaults fails the test for each fault, in the order of their errors, that does not decide alone, or together with
// one that comes after it.
func checkFaults[T any](t *testing.T, good func() T, faults []fault[T], check func(x T) api.Errno) {
	t.Helper()
	same(t, check(good()), api.OK, "without a fault")
	for i, first := range faults {
		for k, later := range faults[i:] {
			x := good()
			later.make(&x)
			first.make(&x) // the last one, for it may overwrite what the later one made
			same(t, check(x), first.e, "fault", i, "before", i+k)
		}
	}
}

// thread returns the yarn of the chapter.
func thread() yarn.Yarn {
	return yarn.Yarn{
		Name: "Y", Density: "1/20", Twist: "-100",
		Strength: []api.Point{{X: "0", Y: "10"}, {X: "80", Y: "14"}, {X: "120", Y: "12"}},
	}
}

// strand returns a yarn with a density and one strength at any twist.
func strand(density, strength api.Rat) yarn.Yarn {
	return yarn.Yarn{Name: "s", Density: density, Twist: "0", Strength: []api.Point{{X: "0", Y: strength}}}
}

// stairs returns a table with so many breakpoints: the strength i + 1 from the twist 2 i on.
func stairs(count int) []api.Point {
	table := make([]api.Point, count)
	for i := range table {
		table[i] = api.Point{X: rat(big.NewRat(int64(2*i), 1)), Y: rat(big.NewRat(int64(i+1), 1))}
	}
	return table
}

// badYarns returns a yarn for each error.
func badYarns() []struct {
	y yarn.Yarn
	e api.Errno
} {
	nameless, heavy, late := thread(), thread(), thread()
	nameless.Name, heavy.Density, late.Strength = "", "0", nil
	return []struct {
		y yarn.Yarn
		e api.Errno
	}{{yarn.Yarn{}, api.ErrName}, {nameless, api.ErrName}, {heavy, api.ErrRange}, {late, api.ErrEmpty}}
}
