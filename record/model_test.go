package record_test

import (
	"fmt"
	"maps"
	"math/rand"
	"regexp"
	"slices"
	"sort"
	"strconv"
	"strings"

	"becket/api"
	"becket/record"
)

// The plain model: everything is done anew from the first event on, slings and notes are kept in maps, lines are matched with
// regular expressions, and logs are recovered by trying all beginnings.

// book is a register that is kept in a map.
type book struct {
	day    int
	slings map[string]record.Sling
}

var nameForm = regexp.MustCompile(`^[A-Za-z][A-Za-z0-9_]{0,23}$`)

// shapes has the numbers of names and values of each kind.
var shapes = map[string][2]int{"make": {2, 3}, "test": {1, 2}, "use": {1, 2}, "fail": {1, 1}, "recall": {1, 1}, "undo": {0, 0}}

// countingIn returns the events that count.
func countingIn(l []api.Event) []api.Event {
	var counting []api.Event
	for _, e := range l {
		if e.Kind == "undo" {
			counting = counting[:len(counting)-1]
		} else {
			counting = append(slices.Clone(counting), e)
		}
	}
	return counting
}

func bookOf(l []api.Event) book {
	b := book{0, map[string]record.Sling{}}
	for _, e := range countingIn(l) {
		b.day = e.Values[0]
		s := b.slings[e.Names[0]]
		switch e.Kind {
		case "make":
			s = record.Sling{Name: e.Names[0], Batch: e.Names[1], Born: b.day, Last: b.day + e.Values[1], Uses: e.Values[2]}
		case "test":
			s.Limit, s.Until = e.Values[1]/2, b.day+365
			if s.Until > s.Last {
				s.Until = s.Last
			}
		case "use":
			s.Used++
		case "fail":
			s.Gone = true
		case "recall":
			for name, member := range b.slings {
				member.Gone = member.Gone || member.Batch == e.Names[0]
				b.slings[name] = member
			}
			continue
		}
		b.slings[s.Name] = s
	}
	return b
}

func (b book) register() record.Register {
	r := record.Register{Day: b.day}
	for _, name := range slices.Sorted(maps.Keys(b.slings)) {
		r.Slings = append(r.Slings, b.slings[name])
	}
	return r
}

func retired(s record.Sling, day int) bool {
	return s.Gone || s.Used >= s.Uses || s.Last < day
}

func certified(s record.Sling, day int) bool {
	return s.Limit != 0 && s.Until >= day
}

func due(s record.Sling, day int) bool {
	return !retired(s, day) && !certified(s, day)
}

// faultOf returns the error of an event by itself.
func faultOf(e api.Event) api.Errno {
	shape, known := shapes[e.Kind]
	switch {
	case e.Number < 1 || e.Number > 1000:
		return api.ErrRange
	case !known:
		return api.ErrKind
	case len(e.Names) != shape[0] || len(e.Values) != shape[1]:
		return api.ErrShape
	}
	for _, name := range e.Names {
		if !nameForm.MatchString(name) {
			return api.ErrName
		}
	}
	for _, value := range e.Values {
		if value < 0 || value > 999999999 {
			return api.ErrRange
		}
	}
	if e.Text != "" {
		return api.ErrForm
	}
	return api.OK
}

// refusalIn returns the error with which an event without one of its own is not accepted after accepted ones.
func refusalIn(l []api.Event, e api.Event) api.Errno {
	b := bookOf(l)
	switch {
	case e.Number != len(l)+1:
		return api.ErrOrder
	case e.Kind == "undo" && len(countingIn(l)) == 0:
		return api.ErrEmpty
	case e.Kind == "undo":
		return api.OK
	case e.Values[0] > 99999:
		return api.ErrRange
	case e.Values[0] < b.day:
		return api.ErrState
	case e.Kind == "make":
		return b.refusalOfMaking(e)
	case e.Kind == "recall":
		return b.refusalOfRecall(e)
	}
	day, s := e.Values[0], b.slings[e.Names[0]]
	switch {
	case s.Name == "":
		return api.ErrUnknown
	case retired(s, day):
		return api.ErrOver
	case e.Kind == "test" && e.Values[1] < 2:
		return api.ErrRange
	case e.Kind == "use" && !certified(s, day):
		return api.ErrOpen
	case e.Kind == "use" && e.Values[1] > s.Limit:
		return api.ErrLoad
	}
	return api.OK
}

func (b book) refusalOfMaking(e api.Event) api.Errno {
	_, known := b.slings[e.Names[0]]
	life, uses := e.Values[1], e.Values[2]
	switch {
	case known:
		return api.ErrTwice
	case life < 1 || life > 9999 || uses < 1 || uses > 9999 || e.Values[0]+life > 99999:
		return api.ErrRange
	case len(b.slings) == 256:
		return api.ErrMany
	}
	return api.OK
}

func (b book) refusalOfRecall(e api.Event) api.Errno {
	members, kept := 0, 0
	for _, s := range b.slings {
		if s.Batch == e.Names[0] {
			members++
			if !retired(s, e.Values[0]) {
				kept++
			}
		}
	}
	switch {
	case members == 0:
		return api.ErrUnknown
	case kept == 0:
		return api.ErrOver
	}
	return api.OK
}

// errorAfter returns the error of an event after accepted ones.
func errorAfter(l []api.Event, e api.Event) api.Errno {
	if code := faultOf(e); code != api.OK {
		return code
	}
	return refusalIn(l, e)
}

// historyIn returns the Numbers of the events that count and are about a sling.
func historyIn(l []api.Event, sling string) []int {
	var numbers []int
	batch := ""
	for _, e := range countingIn(l) {
		if e.Kind == "make" && e.Names[0] == sling {
			batch = e.Names[1]
		}
		if e.Kind == "recall" && e.Names[0] == batch || e.Kind != "recall" && e.Names[0] == sling {
			numbers = append(numbers, e.Number)
		}
	}
	return numbers
}

// lineOf returns the body of an event without its Number.
func lineOf(e api.Event) string {
	line := e.Kind
	for _, name := range e.Names {
		line += " " + name
	}
	for _, value := range e.Values {
		line += fmt.Sprintf(" %d", value)
	}
	return line
}

// lineForms has the form of the lines of each kind.
var lineForms = func() map[string]*regexp.Regexp {
	forms := map[string]*regexp.Regexp{}
	for kind, shape := range shapes {
		text := kind + strings.Repeat(` ([^ ]+)`, shape[0]) + strings.Repeat(` (0|[1-9][0-9]{0,8})`, shape[1])
		forms[kind] = regexp.MustCompile(`(?s)^` + text + `$`)
	}
	return forms
}()

// eventOf returns the event of a line, and whether the line has the form of one.
func eventOf(line string) (api.Event, bool) {
	kind, _, _ := strings.Cut(line, " ")
	form, known := lineForms[kind]
	if !known {
		return api.Event{}, false
	}
	parts := form.FindStringSubmatch(line)
	if parts == nil {
		return api.Event{}, false
	}
	names := shapes[kind][0]
	e := api.Event{Kind: kind, Names: parts[1 : 1+names]}
	for _, word := range parts[1+names:] {
		value, _ := strconv.Atoi(word)
		e.Values = append(e.Values, value)
	}
	return e, true
}

// foldOf returns the events of the fold of notes, and what is set aside.
func foldOf(l []record.Note) ([]api.Event, []record.Mark) {
	var order []string
	lines, marks := map[string]string{}, map[string]record.Mark{}
	for _, x := range l {
		key := fmt.Sprintf("%09d %s", x.Clock, x.Desk)
		order, lines[key], marks[key] = append(order, key), x.Line, record.Mark{Desk: x.Desk, Number: x.Number}
	}
	sort.Strings(order)
	var folded []api.Event
	var aside []record.Mark
	for _, key := range order {
		e, _ := eventOf(lines[key])
		e.Number = len(folded) + 1
		if errorAfter(folded, e) == api.OK {
			folded = append(folded, e)
		} else {
			aside = append(aside, marks[key])
		}
	}
	return folded, aside
}

// sumOf returns the check sum of a text.
func sumOf(text string) string {
	x := uint64(7)
	for _, b := range []byte(text) {
		x = (31*x + uint64(b)) % 9999991
	}
	return fmt.Sprintf("%07d", x)
}

func recordOf(e api.Event) string {
	body := fmt.Sprintf("%d %s", e.Number, lineOf(e))
	return body + ";" + sumOf(body) + "\n"
}

func logOf(l []api.Event) string {
	text := ""
	for _, e := range l {
		text += recordOf(e)
	}
	return text
}

// bodyIn returns the event of a body for which CheckEvent returns OK.
func bodyIn(text string) (api.Event, bool) {
	begin, line, _ := strings.Cut(text, " ")
	e, readable := eventOf(line)
	e.Number, _ = strconv.Atoi(begin)
	return e, readable && strconv.Itoa(e.Number) == begin && faultOf(e) == api.OK
}

// asLog returns the events of a text, and whether it is a log.
func asLog(text string) ([]api.Event, bool) {
	var l []api.Event
	for _, line := range strings.SplitAfter(text, "\n") {
		body, _, _ := strings.Cut(line, ";")
		if e, readable := bodyIn(body); readable {
			l = append(l, e)
		}
	}
	for i, e := range l {
		if e.Number != i+1 {
			return nil, false
		}
	}
	return l, logOf(l) == text
}

// recovered returns the events of the longest beginning of a text that is a log, its length, and the error of what follows.
func recovered(text string) ([]api.Event, int, api.Errno) {
	for length := len(text); ; length-- {
		if l, is := asLog(text[:length]); is {
			return l, length, faultOfRecords(len(l)+1, text[length:])
		}
	}
}

var sumForm = regexp.MustCompile(`(?s)^(.*);([0-9]{7})$`)

// faultOfRecords returns the error of what follows a log.
func faultOfRecords(number int, text string) api.Errno {
	if text == "" {
		return api.OK
	}
	line, _, ended := strings.Cut(text, "\n")
	if !ended {
		return api.ErrTorn
	}
	parts := sumForm.FindStringSubmatch(line)
	if parts == nil {
		return api.ErrSyntax
	}
	e, readable := bodyIn(parts[1])
	switch {
	case sumOf(parts[1]) != parts[2]:
		return api.ErrCheck
	case !readable:
		return api.ErrSyntax
	case e.Number != number:
		return api.ErrOrder
	}
	panic("this record would make the log longer")
}

// answerTo returns the answer to a line after some events, the event that it adds, if any, and its error.
func answerTo(l []api.Event, line string) (string, []api.Event, api.Errno) {
	word, _, _ := strings.Cut(line, " ")
	if len(line) > 4096 {
		return "", l, api.ErrLong
	}
	if line == "" {
		return "", l, api.ErrSyntax
	}
	if _, isKind := shapes[word]; !isKind {
		answer, e := answerIn(bookOf(l).register(), line, word)
		return answer, l, e
	}
	e, readable := eventOf(line)
	e.Number = len(l) + 1
	switch {
	case !readable:
		return "", l, api.ErrSyntax
	case len(l) == 1000:
		return "", l, api.ErrMany
	}
	if code := errorAfter(l, e); code != api.OK {
		return "", l, code
	}
	return fmt.Sprintf("done %d", e.Number), append(slices.Clone(l), e), api.OK
}

var questionForms = map[string]*regexp.Regexp{
	"sling": regexp.MustCompile(`(?s)^sling ([^ ]+)$`), "slings": regexp.MustCompile(`^slings()$`), "due": regexp.MustCompile(`^due (0|[1-9][0-9]{0,8})$`),
}

func answerIn(r record.Register, line, word string) (string, api.Errno) {
	form, known := questionForms[word]
	if !known {
		return "", api.ErrKind
	}
	parts := form.FindStringSubmatch(line)
	if parts == nil {
		return "", api.ErrSyntax
	}
	var names []string
	switch day, _ := strconv.Atoi(parts[1]); word {
	case "sling":
		for _, s := range r.Slings {
			if s.Name == parts[1] {
				state := map[bool]string{true: "gone", false: "kept"}[s.Gone]
				return fmt.Sprintf("%s %d %d %d %d %d %d %s", s.Batch, s.Born, s.Last, s.Uses, s.Used, s.Limit, s.Until, state), api.OK
			}
		}
		return "", api.ErrUnknown
	case "slings":
		names = texts(r.Slings, func(record.Sling) bool { return true })
	case "due":
		if day > 99999 {
			return "", api.ErrRange
		}
		names = texts(r.Slings, func(s record.Sling) bool { return due(s, day) })
	}
	if len(names) == 0 {
		return "none", api.OK
	}
	return strings.Join(names, " "), api.OK
}

// randomEvent returns an event that is often accepted after some others.
func randomEvent(source *rand.Rand, l []api.Event) api.Event {
	b := bookOf(l)
	kinds := []string{"make", "make", "test", "test", "test", "use", "use", "use", "use", "fail", "recall", "undo"}
	e := api.Event{Number: len(l) + 1, Kind: pick(source, kinds)}
	if e.Kind == "undo" {
		return e
	}
	names, batches := []string{"a", "b", "B", "a1", "a_", "x", "Zz"}, []string{"x", "y", "a"}
	day := b.day + source.Intn(3)
	if source.Intn(30) == 0 {
		day = pick(source, []int{b.day + 40, b.day + 400, max(b.day-1, 0), 0, 100000, 999999999})
	}
	if len(b.slings) > 0 && e.Kind != "make" && source.Intn(4) > 0 {
		names = slices.Sorted(maps.Keys(b.slings))
	}
	switch e.Kind {
	case "make":
		life, uses := 1+source.Intn(40), 1+source.Intn(5)
		if source.Intn(6) == 0 {
			life, uses = pick(source, []int{0, 9999, 10000, 999999999, 400}), pick(source, []int{0, 1, 9999, 10000})
		}
		e.Names, e.Values = []string{pick(source, names), pick(source, batches)}, []int{day, life, uses}
	case "test":
		e.Names, e.Values = []string{pick(source, names)}, []int{day, source.Intn(40)}
	case "use":
		e.Names, e.Values = []string{pick(source, names)}, []int{day, source.Intn(12)}
	case "fail":
		e.Names, e.Values = []string{pick(source, names)}, []int{day}
	case "recall":
		e.Names, e.Values = []string{pick(source, batches)}, []int{day}
	}
	return e
}

// randomEvents returns up to so many accepted events.
func randomEvents(source *rand.Rand, most int) []api.Event {
	var l []api.Event
	for range source.Intn(most + 1) {
		if e := randomEvent(source, l); errorAfter(l, e) == api.OK {
			l = append(l, e)
		}
	}
	return l
}

// randomNotes returns notes of some desks without gaps: all of them together are what the desks have written.
func randomNotes(source *rand.Rand, most int) []record.Note {
	byDesk := map[string][]record.Note{}
	var l []api.Event
	clock := 1
	for range source.Intn(most + 1) {
		e := randomEvent(source, l)
		if errorAfter(l, e) == api.OK {
			l = append(l, e)
		}
		desk := pick(source, []string{"x", "y", "X", "x1"})
		own := byDesk[desk]
		if len(own) > 0 && own[len(own)-1].Clock == clock || source.Intn(2) == 0 {
			clock++
		}
		if e.Kind != "undo" {
			byDesk[desk] = append(own, note(desk, len(own)+1, clock, lineOf(e)))
		}
	}
	var notes []record.Note
	for _, desk := range slices.Sorted(maps.Keys(byDesk)) {
		notes = append(notes, byDesk[desk]...)
	}
	return notes
}

// someOf returns some of the elements of a list, in its order.
func someOf[T any](source *rand.Rand, list []T) []T {
	var some []T
	for _, element := range list {
		if source.Intn(3) > 0 {
			some = append(some, element)
		}
	}
	return some
}
