package record

import (
	"slices"
	"strconv"
	"strings"

	"becket/api"
	"becket/check"
	"becket/decimal"
	"becket/lists"
)

// Session is a console with the events that it has accepted.
type Session struct {
	history
}

// question says how many words a question has after the first one, and what its answer is.
type question struct {
	words  int
	answer func(r Register, words []string) (string, api.Errno)
}

func questions() map[string]question {
	return map[string]question{
		"sling":  {words: 1, answer: answerSling},
		"slings": {words: 0, answer: answerSlings},
		"due":    {words: 1, answer: answerDue},
	}
}

// New returns a session without events.
func New() *Session { return &Session{} }

// Load returns the session with the events of a log, which may have a torn end.
func Load(log string) (*Session, api.Errno) {
	l, _, e := Recover(log)
	if e != api.OK && e != api.ErrTorn {
		return nil, e
	}
	h, _, e := historyOf(l)
	if e != api.OK {
		return nil, e
	}
	return &Session{history: h}, api.OK
}

// Do does a line, and returns its answer.
func (s *Session) Do(line string) (string, api.Errno) {
	if s == nil {
		return "", api.ErrState
	}
	e := check.First(check.That(len(line) <= api.MaxText, api.ErrLong), check.That(line != "", api.ErrSyntax))
	if e != api.OK {
		return "", e
	}
	first, _, _ := strings.Cut(line, blank)
	if _, isKind := kinds()[first]; isKind {
		return s.accept(line)
	}
	if q, isQuestion := questions()[first]; isQuestion {
		return s.ask(q, line)
	}
	return "", api.ErrKind
}

// Events returns the events.
func (s *Session) Events() []api.Event {
	if s == nil {
		return nil
	}
	return lists.Map(s.events, func(e api.Event) api.Event {
		e.Names, e.Values = slices.Clone(e.Names), slices.Clone(e.Values)
		return e
	})
}

// Log returns the log of the events.
func (s *Session) Log() string {
	if s == nil {
		return ""
	}
	return strings.Join(lists.Map(s.events, recordOf), "")
}

// accept adds the event of a line.
func (s *Session) accept(line string) (string, api.Errno) {
	e, readable := readEvent(line)
	code := check.First(check.That(readable, api.ErrSyntax), check.That(len(s.events) < api.MaxEvents, api.ErrMany))
	if code != api.OK {
		return "", code
	}
	e.Number = s.nextNumber()
	if code := s.add(e); code != api.OK {
		return "", code
	}
	return answer("done", strconv.Itoa(e.Number)), api.OK
}

// ask answers a question.
func (s *Session) ask(q question, line string) (string, api.Errno) {
	words, haveBytes := readEach(strings.Split(line, blank)[1:], word.name)
	if len(words) != q.words || !haveBytes {
		return "", api.ErrSyntax
	}
	return q.answer(s.register, words)
}

// answerSling answers with what the register has of a sling.
func answerSling(r Register, words []string) (string, api.Errno) {
	s, known := r.slingNamed(words[0])
	if !known {
		return "", api.ErrUnknown
	}
	state := "kept"
	if s.Gone {
		state = "gone"
	}
	values := lists.Map([]int{s.Born, s.Last, s.Uses, s.Used, s.Limit, s.Until}, strconv.Itoa)
	return answer(slices.Concat([]string{s.Batch}, values, []string{state})...), api.OK
}

// answerSlings answers with the names of all slings.
func answerSlings(r Register, _ []string) (string, api.Errno) {
	return answer(namesOf(r.Slings)...), api.OK
}

// answerDue answers with the names of the slings that are due on a day.
func answerDue(r Register, words []string) (string, api.Errno) {
	day, readable := decimal.Natural(words[0])
	if e := check.First(check.That(readable, api.ErrSyntax), checkDay(day)); e != api.OK {
		return "", e
	}
	return answer(namesOf(r.slingsDue(day))...), api.OK
}

// answer joins the words of an answer.
func answer(words ...string) string {
	if len(words) == 0 {
		return "none"
	}
	return strings.Join(words, blank)
}
