package plait

import (
	"strconv"
	"strings"

	"becket/api"
	"becket/check"
	"becket/decimal"
	"becket/lists"
)

// What separates the words of a text, and the slots of a move.
const (
	blank = " "
	dash  = "-"
)

// PrintMoves returns the text of moves.
func PrintMoves(l []Move) (string, api.Errno) {
	if e := check.First(checkMoves(l), check.Each(l, checkPrintable)); e != api.OK {
		return "", e
	}
	text := strings.Join(lists.Map(l, wordOf), blank)
	if len(text) > api.MaxText {
		return "", api.ErrLong
	}
	return text, api.OK
}

// ParseMoves returns the moves with a text, or the number of the first word with an error.
func ParseMoves(s string) ([]Move, int, api.Errno) {
	if len(s) > api.MaxText {
		return nil, 0, api.ErrLong
	}
	if s == "" { // it has no words, while to split it yields an empty one
		return nil, 0, api.OK
	}
	var l []Move
	for i, word := range strings.Split(s, blank) {
		m, readable := readMove(word)
		if !readable {
			return nil, i + 1, api.ErrSyntax
		}
		l = append(l, m)
	}
	if e := checkMoves(l); e != api.OK {
		return nil, 0, e
	}
	return l, 0, api.OK
}

// checkPrintable returns the error of a move with a number that no text has.
func checkPrintable(m Move) api.Errno {
	return check.First(check.Range(m.From, 0, api.MaxNumber), check.Range(m.To, 0, api.MaxNumber))
}

func wordOf(m Move) string {
	return strconv.Itoa(m.From) + dash + strconv.Itoa(m.To)
}

// readMove returns the move of a word, and tells whether it is one.
func readMove(word string) (Move, bool) {
	begin, end, _ := strings.Cut(word, dash) // without a dash the end is empty, which is no number
	from, hasFrom := decimal.Natural(begin)
	to, hasTo := decimal.Natural(end)
	return Move{From: from, To: to}, hasFrom && hasTo
}
