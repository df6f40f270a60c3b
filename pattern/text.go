package pattern

import (
	"strings"

	"becket/api"
	"becket/check"
)

// The letters of the first colour and the last one, and the end of each line.
const (
	firstLetter = 'a'
	lastLetter  = firstLetter + api.MaxColours - 1
	lineFeed    = "\n"
)

// Print returns the text of a picture.
func Print(p [][]int) (string, api.Errno) {
	if e := CheckPicture(p); e != api.OK {
		return "", e
	}
	var text strings.Builder
	for _, row := range p {
		for _, colour := range row {
			text.WriteRune(firstLetter + rune(colour))
		}
		text.WriteString(lineFeed)
	}
	return text.String(), api.OK
}

// Parse returns the picture with a text, or the line with an error.
func Parse(s string) ([][]int, int, api.Errno) {
	e := check.First(check.That(len(s) <= api.MaxText, api.ErrLong), check.That(strings.HasSuffix(s, lineFeed), api.ErrTorn))
	if e != api.OK {
		return nil, 0, e
	}
	var p [][]int
	for i, line := range strings.Split(strings.TrimSuffix(s, lineFeed), lineFeed) {
		row, readable := readRow(line)
		if !readable {
			return nil, i + 1, api.ErrSyntax
		}
		p = append(p, row)
	}
	if e := CheckPicture(p); e != api.OK {
		return nil, 0, e
	}
	return p, 0, api.OK
}

// readRow returns the colours of a line; it tells whether it has letters of colours alone.
func readRow(line string) ([]int, bool) {
	var row []int
	for _, letter := range line {
		if letter < firstLetter || letter > lastLetter {
			return nil, false
		}
		row = append(row, int(letter-firstLetter))
	}
	return row, true
}
