package record

import (
	"strconv"
	"strings"

	"becket/api"
	"becket/check"
)

// What stands between the body and the check sum of a record, and behind this.
const (
	semicolon = ";"
	lineFeed  = "\n"
)

// The check sum: where it begins, by what it is multiplied and divided, and its digits.
const (
	sumBegin  = 7
	sumFactor = 31
	sumModule = 9999991
	sumDigits = 7
)

// Append returns a log with a further record.
func Append(log string, e api.Event) (string, api.Errno) {
	l, _, code := Recover(log)
	longer := log + recordOf(e)
	code = check.First(
		code, CheckEvent(e), check.That(e.Number == len(l)+1, api.ErrOrder), check.That(len(longer) <= api.MaxLog, api.ErrLong),
	)
	if code != api.OK {
		return "", code
	}
	return longer, api.OK
}

// Recover returns the events of the longest beginning of a text that is a log, its length, and the error of what follows.
func Recover(log string) ([]api.Event, int, api.Errno) {
	if len(log) > api.MaxLog {
		return nil, 0, api.ErrLong
	}
	var l []api.Event
	length := 0
	for line := range strings.Lines(log) {
		e, code := readRecord(line, len(l)+1)
		if code != api.OK {
			return l, length, code
		}
		l, length = append(l, e), length+len(line)
	}
	return l, length, api.OK
}

// recordOf returns the record of an event.
func recordOf(e api.Event) string {
	body := bodyOf(e)
	return body + semicolon + checkSum(body) + lineFeed
}

// readRecord returns the event of a record, which has to have a number, or the first error of the record.
func readRecord(line string, number int) (api.Event, api.Errno) {
	text, ended := strings.CutSuffix(line, lineFeed)
	if !ended {
		return api.Event{}, api.ErrTorn
	}
	body, sum, summed := cutSum(text)
	e, readable := readBody(body)
	return e, check.First(
		check.That(summed, api.ErrSyntax),
		check.That(sum == checkSum(body), api.ErrCheck),
		check.That(readable && CheckEvent(e) == api.OK, api.ErrSyntax),
		check.That(e.Number == number, api.ErrOrder),
	)
}

// cutSum returns what stands before and behind the semicolon of a record, and tells whether it ends with one and so many digits.
func cutSum(text string) (body, sum string, summed bool) {
	at := len(text) - sumDigits - len(semicolon)
	if at < 0 {
		return "", "", false
	}
	body, rest := text[:at], text[at:]
	sum, separated := strings.CutPrefix(rest, semicolon)
	return body, sum, separated && strings.Trim(sum, "0123456789") == ""
}

// checkSum returns the check sum of a text.
func checkSum(text string) string {
	sum := sumBegin
	for i := range len(text) {
		sum = (sum*sumFactor + int(text[i])) % sumModule
	}
	digits := strconv.Itoa(sum)
	return strings.Repeat("0", sumDigits-len(digits)) + digits
}
