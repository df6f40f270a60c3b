package number_test

import (
	"math/big"
	"math/rand"
	"reflect"
	"strings"
	"testing"

	"becket/api"
)

// The tests compare with math/big, which knows nothing of the package, and use its exported functions alone.

// same fails the test if a result is not the wanted one; nil and empty slices are equivalent.
func same(t *testing.T, got, wanted any, what ...any) {
	t.Helper()
	g, w := reflect.ValueOf(got), reflect.ValueOf(wanted)
	if g.Kind() == reflect.Slice && g.Len() == 0 && w.Kind() == reflect.Slice && w.Len() == 0 {
		return
	}
	if !reflect.DeepEqual(got, wanted) {
		t.Errorf("%v: got %v, want %v", what, shortened(got), shortened(wanted))
	}
}

// shortened keeps long numbers out of messages.
func shortened(value any) any {
	if text, ok := value.(api.Rat); ok && len(text) > 80 {
		return text[:60] + ".."
	}
	return value
}

// exact returns the number of a text that is known to be one.
func exact(t *testing.T, text api.Rat) *big.Rat {
	t.Helper()
	value, ok := new(big.Rat).SetString(string(text))
	if !ok || value.RatString() != string(text) {
		t.Fatalf("%q is not the text of a number", shortened(text))
	}
	return value
}

// rat returns the text of a number.
func rat(value *big.Rat) api.Rat {
	return api.Rat(value.RatString())
}

// limited returns what a function has to return for a result: its text, or ErrLarge.
func limited(value *big.Rat) (api.Rat, api.Errno) {
	if len(new(big.Int).Abs(value.Num()).String()) > api.MaxDigits || len(value.Denom().String()) > api.MaxDigits {
		return "", api.ErrLarge
	}
	return rat(value), api.OK
}

// sameLimited fails the test if a number and its error are not those of a result.
func sameLimited(t *testing.T, got api.Rat, e api.Errno, wanted *big.Rat, what ...any) {
	t.Helper()
	text, wantedError := limited(wanted)
	same(t, e, wantedError, what...)
	same(t, got, text, what...)
}

// digits returns a text of equal digits.
func digits(digit string, count int) string {
	return strings.Repeat(digit, count)
}

// ten returns the text of a power of ten.
func ten(exponent int) string {
	return "1" + digits("0", exponent)
}

// nines returns the greatest integer with so many digits.
func nines(count int) api.Rat {
	return api.Rat(digits("9", count))
}

// seeded returns a source of numbers that is the same in each run.
func seeded() *rand.Rand {
	return rand.New(rand.NewSource(39373))
}

// randomInt returns an integer of up to so many digits.
func randomInt(source *rand.Rand, most int) *big.Int {
	count := 1 + source.Intn(most)
	text := make([]byte, count)
	for i := range text {
		text[i] = byte('0' + source.Intn(10))
	}
	value, _ := new(big.Int).SetString(string(text), 10)
	if source.Intn(2) == 0 {
		value.Neg(value)
	}
	return value
}

// randomRat returns a number whose parts have up to so many digits.
func randomRat(source *rand.Rand, most int) *big.Rat {
	bottom := new(big.Int).Abs(randomInt(source, most))
	if bottom.Sign() == 0 || source.Intn(4) == 0 {
		bottom.SetInt64(1)
	}
	return new(big.Rat).SetFrac(randomInt(source, most), bottom)
}

// mixedRats returns small numbers, long ones, and those at the limits.
func mixedRats(source *rand.Rand) []*big.Rat {
	var list []*big.Rat
	for _, text := range []string{
		"0", "1", "-1", "2", "-2", "1/2", "-1/2", "3/2", "-7/3", "18446744073709551615", "18446744073709551616",
		"-18446744073709551617/3", "9999999999999999999/10000000000000000000", "10000000000000000000",
		"340282366920938463463374607431768211455", "340282366920938463463374607431768211456",
		digits("9", 600), "-" + digits("9", 600), "1/" + digits("9", 600), digits("9", 600) + "/" + ten(599),
		ten(599), "-1/" + ten(599), ten(300), "1/" + ten(300),
	} {
		value, _ := new(big.Rat).SetString(text)
		list = append(list, value)
	}
	for _, most := range []int{1, 2, 9, 20, 21, 40, 150, 299, 600} {
		for range 3 {
			list = append(list, randomRat(source, most))
		}
	}
	return list
}

// badNumber is a text with the error of a number.
type badNumber struct {
	text api.Rat
	e    api.Errno
}

// badNumbers returns a text for each error of a number.
func badNumbers() []badNumber {
	return []badNumber{{"2/4", api.ErrForm}, {nines(601), api.ErrLarge}}
}
