package record

import (
	"slices"
	"strconv"
	"strings"

	"becket/api"
	"becket/check"
	"becket/decimal"
	"becket/lists"
)

// The kinds that are told from the others.
const (
	kindOfMaking  = "make"
	kindOfUndoing = "undo"
)

// blank stands between two words.
const blank = " "

// leastLoad is the least load of a test: half of it is a limit above 0.
const leastLoad = 2

// kind says how many names and values the events of a kind have, which slings they are about, with which error they are not
// accepted, and what such a sling becomes by them. To undo is about no sling, and has neither names nor values.
type kind struct {
	names   int
	values  int
	isAbout func(s Sling, e api.Event) bool
	refusal func(slings, about []Sling, e api.Event) api.Errno
	become  func(s Sling, e api.Event) Sling
}

func kinds() map[string]kind {
	return map[string]kind{
		kindOfMaking:  {names: 2, values: 3, isAbout: isNamed, refusal: refusalOfMaking, become: made},
		"test":        {names: 1, values: 2, isAbout: isNamed, refusal: refusalOfTest, become: tested},
		"use":         {names: 1, values: 2, isAbout: isNamed, refusal: refusalOfUse, become: used},
		"fail":        {names: 1, values: 1, isAbout: isNamed, refusal: refusalOfRetired, become: gone},
		"recall":      {names: 1, values: 1, isAbout: isOfBatch, refusal: refusalOfRetired, become: gone},
		kindOfUndoing: {},
	}
}

// CheckEvent returns the first error of an event by itself, or OK.
func CheckEvent(e api.Event) api.Errno {
	k, known := kinds()[e.Kind]
	return check.First(
		check.Range(e.Number, 1, api.MaxEvents),
		check.That(known, api.ErrKind),
		check.That(len(e.Names) == k.names && len(e.Values) == k.values, api.ErrShape),
		check.Each(e.Names, check.Name),
		check.Each(e.Values, func(value int) api.Errno { return check.Range(value, 0, api.MaxNumber) }),
		check.That(e.Text == "", api.ErrForm),
	)
}

// dayOf returns the day of an event that is not to undo.
func dayOf(e api.Event) int {
	return e.Values[0]
}

// loadOf returns the load of a test, or a use.
func loadOf(e api.Event) int {
	return e.Values[1]
}

func isNamed(s Sling, e api.Event) bool {
	return s.Name == e.Names[0]
}

func isOfBatch(s Sling, e api.Event) bool {
	return s.Batch == e.Names[0]
}

func refusalOfMaking(slings, about []Sling, e api.Event) api.Errno {
	day, life, uses := e.Values[0], e.Values[1], e.Values[2]
	return check.First(
		check.That(len(about) == 0, api.ErrTwice),
		check.Range(life, 1, MaxLife),
		check.Range(uses, 1, MaxUses),
		check.That(day+life <= api.MaxDay, api.ErrRange),
		check.That(len(slings) < api.MaxList, api.ErrMany),
	)
}

// refusalOfRetired returns the error of an event that is about no sling, or about such alone as are retired.
func refusalOfRetired(_, about []Sling, e api.Event) api.Errno {
	kept := slices.ContainsFunc(about, func(s Sling) bool { return !s.isRetired(dayOf(e)) })
	return check.First(check.That(len(about) > 0, api.ErrUnknown), check.That(kept, api.ErrOver))
}

func refusalOfTest(slings, about []Sling, e api.Event) api.Errno {
	return check.First(refusalOfRetired(slings, about, e), check.Range(loadOf(e), leastLoad, api.MaxNumber))
}

func refusalOfUse(slings, about []Sling, e api.Event) api.Errno {
	if code := refusalOfRetired(slings, about, e); code != api.OK {
		return code
	}
	s := about[0]
	return check.First(check.That(s.isCertified(dayOf(e)), api.ErrOpen), check.That(loadOf(e) <= s.Limit, api.ErrLoad))
}

func made(s Sling, e api.Event) Sling {
	s.Batch, s.Born, s.Last, s.Uses = e.Names[1], e.Values[0], e.Values[0]+e.Values[1], e.Values[2]
	return s
}

func tested(s Sling, e api.Event) Sling {
	s.Limit, s.Until = loadOf(e)/2, min(dayOf(e)+Valid, s.Last)
	return s
}

func used(s Sling, _ api.Event) Sling {
	s.Used++
	return s
}

func gone(s Sling, _ api.Event) Sling {
	s.Gone = true
	return s
}

// word is a word of a line.
type word string

// name returns a word that may be a name, and tells whether it has any bytes.
func (w word) name() (string, bool) {
	return string(w), w != ""
}

// value returns a word as an integer, and tells whether it is one.
func (w word) value() (int, bool) {
	return decimal.Natural(string(w))
}

// readEach returns what words are read as, and tells whether all of them can be read.
func readEach[T any](words []string, read func(word) (T, bool)) ([]T, bool) {
	results, all := make([]T, len(words)), true
	for i, text := range words {
		result, readable := read(word(text))
		results[i], all = result, all && readable
	}
	return results, all
}

// readEvent returns the event of a body without its Number, and tells whether the text has the form of one.
func readEvent(text string) (api.Event, bool) {
	words := strings.Split(text, blank)
	k, known := kinds()[words[0]]
	if !known || len(words) != 1+k.names+k.values {
		return api.Event{}, false
	}
	names, haveBytes := readEach(words[1:1+k.names], word.name)
	values, areIntegers := readEach(words[1+k.names:], word.value)
	return api.Event{Kind: words[0], Names: names, Values: values}, haveBytes && areIntegers
}

// bodyOf returns the body of an event.
func bodyOf(e api.Event) string {
	words := slices.Concat([]string{strconv.Itoa(e.Number), e.Kind}, e.Names, lists.Map(e.Values, strconv.Itoa))
	return strings.Join(words, blank)
}

// readBody returns the event of a body, and tells whether the text has the form of one.
func readBody(text string) (api.Event, bool) {
	begin, rest, _ := strings.Cut(text, blank) // without a blank the rest is empty, which is no event
	number, isInteger := word(begin).value()
	e, readable := readEvent(rest)
	e.Number = number
	return e, isInteger && readable
}
