package record_test

import (
	"math/rand"
	"slices"
	"strconv"
	"strings"
	"testing"

	"becket/api"
	"becket/record"
)

// The tests of P10.5.

// started returns a session that has done lines without errors.
func started(t *testing.T, lines ...string) *record.Session {
	t.Helper()
	s := record.New()
	for i, line := range lines {
		answer, e := s.Do(line)
		sameResult(t, answer, e, "done "+strconv.Itoa(i+1), api.OK, line)
	}
	return s
}

// checkSession compares the events and the log of a session with what they have to be.
func checkSession(t *testing.T, s *record.Session, l []api.Event, what ...any) {
	t.Helper()
	same(t, s.Events(), l, what...)
	same(t, s.Log(), logOf(l), what...)
}

func chapterLines() []string {
	return []string{"make a b 10 100 2", "test a 10 401", "use a 11 200"}
}

func TestNewSessions(t *testing.T) {
	for _, s := range []*record.Session{record.New(), {}} {
		checkSession(t, s, nil)
		answer, e := s.Do("slings")
		sameResult(t, answer, e, "none", api.OK)
		answer, e = s.Do("make a b 10 100 2")
		sameResult(t, answer, e, "done 1", api.OK)
		checkSession(t, s, chapterEvents()[:1])
	}
	first, second := record.New(), record.New()
	first.Do("make a b 10 100 2")
	checkSession(t, second, nil)
}

func TestNoSession(t *testing.T) {
	var s *record.Session
	for _, line := range []string{"", "undo", "slings", "tables", "fail", strings.Repeat("x", 4097)} {
		answer, e := s.Do(line)
		sameResult(t, answer, e, "", api.ErrState, line)
	}
	checkSession(t, s, nil)
}

func TestQuestions(t *testing.T) {
	long := strings.Repeat("Z", 24)
	lines := append(chapterLines(), "make "+long+" y1 20 9999 9999", "make c b 20 5 1", "test c 21 999999999")
	s := started(t, lines...)
	for _, example := range []struct{ line, answer string }{
		{"sling a", "b 10 110 2 1 200 110 kept"}, {"sling c", "b 20 25 1 0 499999999 25 kept"}, {"sling " + long, "y1 20 10019 9999 0 0 0 kept"}, {"slings", long + " a c"},
		{"due 0", long}, {"due 110", long}, {"due 111", long}, {"due 10020", "none"}, {"due 99999", "none"},
		{"use c 21 5", "done 7"}, {"sling c", "b 20 25 1 1 499999999 25 kept"}, {"recall b 22", "done 8"}, {"sling a", "b 10 110 2 1 200 110 gone"}, {"sling c", "b 20 25 1 1 499999999 25 gone"},
		{"undo", "done 9"}, {"sling a", "b 10 110 2 1 200 110 kept"}, {"fail a 21", "done 10"}, {"sling a", "b 10 110 2 1 200 110 gone"}, {"slings", long + " a c"}, {"due 20", long},
		{"make d b 21 400 3", "done 11"}, {"due 21", long + " d"}, {"due 421", long + " d"}, {"due 422", long}, {"test d 21 10", "done 12"}, {"due 386", long}, {"due 387", long + " d"}, {"sling d", "b 21 421 3 0 5 386 kept"},
	} {
		answer, e := s.Do(example.line)
		sameResult(t, answer, e, example.answer, api.OK, example.line)
	}
	same(t, len(s.Events()), 12)
}

// Lines with errors change nothing.
func TestErrorsOfLines(t *testing.T) {
	s := started(t, chapterLines()...)
	for _, example := range []struct {
		line string
		e    api.Errno
	}{
		{"", api.ErrSyntax}, {" ", api.ErrKind}, {" slings", api.ErrKind}, {" sling a", api.ErrKind}, {" undo", api.ErrKind}, {"\n", api.ErrKind}, {"Slings", api.ErrKind}, {"slings\n", api.ErrKind}, {"make\ta", api.ErrKind},
		{"tables", api.ErrKind}, {"tables x y", api.ErrKind}, {"4 undo", api.ErrKind}, {"\xff", api.ErrKind}, {"undoes", api.ErrKind}, {"Due 1", api.ErrKind}, {"note", api.ErrKind},
		{"sling", api.ErrSyntax}, {"sling ", api.ErrSyntax}, {"sling  ", api.ErrSyntax}, {"sling  a", api.ErrSyntax}, {"sling a ", api.ErrSyntax}, {"sling a b", api.ErrSyntax}, {"slings ", api.ErrSyntax}, {"slings x", api.ErrSyntax},
		{"sling b", api.ErrUnknown}, {"sling A", api.ErrUnknown}, {"sling 1", api.ErrUnknown}, {"sling -", api.ErrUnknown}, {"sling \xff", api.ErrUnknown}, {"sling a\n", api.ErrUnknown}, {"sling " + strings.Repeat("a", 4090), api.ErrUnknown},
		{"due", api.ErrSyntax}, {"due ", api.ErrSyntax}, {"due x", api.ErrSyntax}, {"due 01", api.ErrSyntax}, {"due -1", api.ErrSyntax}, {"due +1", api.ErrSyntax}, {"due -0", api.ErrSyntax}, {"due 1 ", api.ErrSyntax}, {"due  1", api.ErrSyntax},
		{"due 1 1", api.ErrSyntax}, {"due 1000000000", api.ErrSyntax}, {"due 00", api.ErrSyntax}, {"due 1\n", api.ErrSyntax}, {"due a b", api.ErrSyntax}, {"due 100000", api.ErrRange}, {"due 999999999", api.ErrRange},
		{"undo x", api.ErrSyntax}, {"undo ", api.ErrSyntax}, {"fail 1 30", api.ErrName}, {"make 1 b 20 1 1", api.ErrName}, {"make c - 20 1 1", api.ErrName}, {"recall " + strings.Repeat("a", 25) + " 1", api.ErrName}, {"fail \n 30", api.ErrName},
		{"use a 11 201", api.ErrLoad}, {"use a 111 201", api.ErrOver}, {"use a 10 1", api.ErrState}, {"use a 100000 1", api.ErrRange}, {"use z 11 1", api.ErrUnknown}, {"make a b 11 1 1", api.ErrTwice}, {"make c b 11 0 1", api.ErrRange},
		{"test a 11 1", api.ErrRange}, {"recall z 11", api.ErrUnknown}, {strings.Repeat("x", 4097), api.ErrLong}, {strings.Repeat(" ", 4097), api.ErrLong}, {"fail a " + strings.Repeat("1", 4090), api.ErrLong},
		{"fail a " + strings.Repeat("1", 4089), api.ErrSyntax}, {"fail " + strings.Repeat("a", 4089) + " 5", api.ErrName}, {strings.Repeat("x", 4096), api.ErrKind},
	} {
		answer, e := s.Do(example.line)
		sameResult(t, answer, e, "", example.e, example.line)
	}
	for _, line := range badLines() {
		if word, _, _ := strings.Cut(line, " "); len(line) <= 4096 && shapes[word] != [2]int{} {
			answer, e := s.Do(line)
			sameResult(t, answer, e, "", api.ErrSyntax, line)
		}
	}
	checkSession(t, s, chapterEvents())
	answer, e := s.Do("use a 11 200")
	sameResult(t, answer, e, "done 4", api.OK)
}

func TestAFullSession(t *testing.T) {
	s, e := record.Load(logOf(fullEvents()))
	same(t, e, api.OK)
	for line, wanted := range map[string]api.Errno{
		"undo": api.ErrMany, "fail a 10": api.ErrMany, "fail 1 5": api.ErrMany, "fail z 100000": api.ErrMany, "fail a": api.ErrSyntax, "undo ": api.ErrSyntax, "tables": api.ErrKind, "slings": api.OK, "due 10": api.OK,
	} {
		_, e := s.Do(line)
		same(t, e, wanted, line)
	}
	checkSession(t, s, fullEvents())
	s, e = record.Load(logOf(fullEvents()[:999]))
	same(t, e, api.OK)
	answer, e := s.Do("undo")
	sameResult(t, answer, e, "done 1000", api.OK)
	_, e = s.Do("undo")
	same(t, e, api.ErrMany)
}

// All slings have longer names together than a line may be.
func TestLongAnswers(t *testing.T) {
	s := record.New()
	var names []string
	for i := range 256 {
		names = append(names, strings.Repeat("s", 20)+strconv.Itoa(1000+i))
		_, e := s.Do("make " + names[i] + " b 0 5 5")
		same(t, e, api.OK)
	}
	for _, line := range []string{"slings", "due 5"} {
		answer, e := s.Do(line)
		sameResult(t, answer, e, strings.Join(names, " "), api.OK, line)
	}
	_, e := s.Do("make t b 0 5 5")
	same(t, e, api.ErrMany)
}

func TestLoad(t *testing.T) {
	log := logOf(chapterEvents())
	for end, events := range map[string]int{"": 3, "4": 3, "4 undo;0000000": 3, "\x00": 3} {
		s, e := record.Load(log + end)
		same(t, e, api.OK, end)
		checkSession(t, s, chapterEvents()[:events], end)
	}
	s, e := record.Load(log[:len(log)-1])
	same(t, e, api.OK)
	checkSession(t, s, chapterEvents()[:2])
	s, e = record.Load("")
	same(t, e, api.OK)
	checkSession(t, s, nil)
	for _, example := range []struct {
		log string
		e   api.Errno
	}{
		{"1;0000267\n", api.ErrCheck}, {"\n", api.ErrSyntax}, {log + "\n", api.ErrSyntax}, {log + summed("5 undo"), api.ErrOrder}, {log[1:], api.ErrCheck}, {strings.Repeat("x", api.MaxLog+1), api.ErrLong},
		{summed("1 undo"), api.ErrEmpty}, {summed("1 fail a 5"), api.ErrUnknown}, {summed("1 fail a 5") + "torn", api.ErrUnknown}, {log + summed("4 use a 11 201"), api.ErrLoad}, {log + summed("4 use a 9 1"), api.ErrState},
		{summed("1 fail a 5") + "\n", api.ErrSyntax}, {summed("1 make a b 1 10000 1"), api.ErrRange},
	} {
		s, e := record.Load(example.log)
		sameResult(t, s == nil, e, true, example.e, example.log[:min(len(example.log), 60)])
	}
}

// What a session has returned may be changed without an effect on it.
func TestEventsAreCopies(t *testing.T) {
	loaded, _ := record.Load(logOf(chapterEvents()))
	for _, s := range []*record.Session{started(t, chapterLines()...), loaded} {
		for _, x := range s.Events() {
			x.Names[0], x.Values[0] = "z", 77
			_, _ = append(x.Names, "y"), append(x.Values, 5)
		}
		l := s.Events()
		clear(l[:cap(l)])
		checkSession(t, s, chapterEvents())
		answer, e := s.Do("sling a")
		sameResult(t, answer, e, "b 10 110 2 1 200 110 kept", api.OK)
		answer, e = s.Do("undo")
		sameResult(t, answer, e, "done 4", api.OK)
		answer, e = s.Do("sling a")
		sameResult(t, answer, e, "b 10 110 2 0 200 110 kept", api.OK)
	}
}

// randomLine returns a line of an event, a question, or another one.
func randomLine(source *rand.Rand, l []api.Event) string {
	switch source.Intn(8) {
	case 0:
		return "sling " + pick(source, []string{"a", "b", "B", "a1", "x", "1"})
	case 1:
		return pick(source, []string{"slings", "due " + strconv.Itoa(bookOf(l).day+source.Intn(50)), "due 99999", "due 100000", "sling", "due", "due x"})
	case 2:
		line := []byte(lineOf(randomEvent(source, l)))
		line[source.Intn(len(line))] = pick(source, []byte(" 0az\n"))
		return string(line)
	}
	return lineOf(randomEvent(source, l))
}

func TestRandomLines(t *testing.T) {
	source := seeded()
	seen := map[api.Errno]int{}
	for range 600 {
		var l []api.Event
		s := record.New()
		for range source.Intn(80) {
			line := randomLine(source, l)
			wanted, longer, code := answerTo(l, line)
			answer, e := s.Do(line)
			sameResult(t, answer, e, wanted, code, l, line)
			l = longer
			seen[code]++
		}
		checkSession(t, s, l)
		again, e := record.Load(s.Log())
		same(t, e, api.OK, l)
		checkSession(t, again, l)
		for _, line := range []string{"slings", "due 20", "sling a", "undo", "make n m 300 5 5", "slings"} {
			first, e1 := s.Do(line)
			second, e2 := again.Do(line)
			sameResult(t, second, e2, first, e1, l, line)
		}
	}
	for _, e := range []api.Errno{
		api.OK, api.ErrSyntax, api.ErrKind, api.ErrUnknown, api.ErrRange, api.ErrName, api.ErrTwice, api.ErrOver, api.ErrOpen, api.ErrLoad, api.ErrState, api.ErrEmpty,
	} {
		same(t, seen[e] > 5, true, e, seen)
	}
}

// Lines that have been done in one go, or with a new session from the log before each one, have the same answers.
func TestSessionsFromLogs(t *testing.T) {
	source := seeded()
	for range 40 {
		s, log := record.New(), ""
		var l []api.Event
		for range 30 {
			line := randomLine(source, l)
			answer, e := s.Do(line)
			again, code := record.Load(log)
			same(t, code, api.OK, log)
			other, e2 := again.Do(line)
			sameResult(t, other, e2, answer, e, log, line)
			log, l = again.Log(), slices.Clone(again.Events())
		}
		same(t, log, s.Log())
	}
}
