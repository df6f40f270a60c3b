// Package decimal reads the integers in texts, for all layers.
package decimal

import (
	"strconv"

	"becket/api"
)

// Integer reads a decimal integer of at most 9 digits, without zeros at the beginning and with a - before one below 0;
// it tells whether the word is one.
func Integer(word string) (int, bool) {
	value, err := strconv.Atoi(word)
	if err != nil || value < -api.MaxNumber || value > api.MaxNumber || strconv.Itoa(value) != word {
		return 0, false
	}
	return value, true
}

// Natural reads such an integer that has no sign.
func Natural(word string) (int, bool) {
	value, readable := Integer(word)
	if value < 0 {
		return 0, false
	}
	return value, readable
}
