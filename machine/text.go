package machine

import (
	"strconv"
	"strings"

	"becket/api"
	"becket/decimal"
	"becket/lists"
)

// The words of texts.
const (
	wordOfRow  = "row"
	wordOfRing = "ring"
	forwards   = "+"
	backwards  = "-"
	noPlaces   = "none"
)

// Print returns the text of a machine.
func Print(m Machine) (string, api.Errno) {
	if e := CheckMachine(m); e != api.OK {
		return "", e
	}
	words := []string{wordOfRow, strconv.Itoa(m.Gears), forwards, noPlaces}
	if m.Ring {
		words[0] = wordOfRing
	}
	if m.Turn == -1 {
		words[2] = backwards
	}
	if len(m.Switches) > 0 {
		words[3] = strings.Join(lists.Map(m.Switches, strconv.Itoa), ",")
	}
	return strings.Join(words, " "), api.OK
}

// Parse returns the machine with a text.
func Parse(s string) (Machine, api.Errno) {
	if len(s) > api.MaxText {
		return Machine{}, api.ErrLong
	}
	m, readable := read(strings.Split(s, " "))
	if !readable {
		return Machine{}, api.ErrSyntax
	}
	if e := CheckMachine(m); e != api.OK {
		return Machine{}, e
	}
	return m, api.OK
}

// read returns the machine with these words, which may have errors; it tells whether the words are those of a machine.
func read(words []string) (Machine, bool) {
	if len(words) != 4 {
		return Machine{}, false
	}
	kinds, turns := map[string]bool{wordOfRow: false, wordOfRing: true}, map[string]int{forwards: 1, backwards: -1}
	ring, hasKind := kinds[words[0]]
	count, hasCount := decimal.Natural(words[1])
	turn, hasTurn := turns[words[2]]
	switches, hasPlaces := readPlaces(words[3])
	return Machine{Ring: ring, Gears: count, Turn: turn, Switches: switches}, hasKind && hasCount && hasTurn && hasPlaces
}

func readPlaces(word string) ([]int, bool) {
	if word == noPlaces {
		return nil, true
	}
	var places []int
	for _, part := range strings.Split(word, ",") {
		place, readable := decimal.Natural(part)
		if !readable {
			return nil, false
		}
		places = append(places, place)
	}
	return places, true
}
