package decimal_test

import (
	"strconv"
	"strings"
	"testing"

	"becket/decimal"
)

func same(t *testing.T, word string, value, wanted int, readable, wantedReadable bool) {
	t.Helper()
	if value != wanted || readable != wantedReadable {
		t.Errorf("%.50q: got %d %t, want %d %t", word, value, readable, wanted, wantedReadable)
	}
}

func TestIntegers(t *testing.T) {
	for _, wanted := range []int{0, 1, 9, 10, 12345, 999999999} {
		word := strconv.Itoa(wanted)
		value, readable := decimal.Integer(word)
		same(t, word, value, wanted, readable, true)
		value, readable = decimal.Natural(word)
		same(t, word, value, wanted, readable, true)
		if wanted > 0 {
			value, readable = decimal.Integer("-" + word)
			same(t, "-"+word, value, -wanted, readable, true)
			value, readable = decimal.Natural("-" + word)
			same(t, "-"+word, value, 0, readable, false)
		}
	}
}

func TestWordsThatAreNoIntegers(t *testing.T) {
	for _, word := range []string{
		"", "-", "+", "x", "00", "01", "-0", "-01", "+1", "--1", "1-", "1.0", "1/1", "1e3", "0x1", "1_0", " 1", "1 ", "1\n", "٣", "\xff", "\x001",
		"1000000000", "-1000000000", "000000001", "99999999999999999999999", strings.Repeat("9", 4096),
	} {
		value, readable := decimal.Integer(word)
		same(t, word, value, 0, readable, false)
		value, readable = decimal.Natural(word)
		same(t, word, value, 0, readable, false)
	}
}
