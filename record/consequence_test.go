package record_test

import (
	"math"
	"math/rand"
	"reflect"
	"slices"
	"strconv"
	"strings"
	"testing"

	"becket/api"
	"becket/record"
)

// The tests of P10.6, and of P1 and P10 for the package.

func TestARetiredSlingStaysSo(t *testing.T) {
	source := seeded()
	stayed := 0
	for range 200 {
		var l []api.Event
		for range 60 {
			if x := randomEvent(source, l); x.Kind != "undo" && errorAfter(l, x) == api.OK {
				l = append(l, x)
			}
		}
		for count := range l {
			early, _, e := record.Replay(l[:count])
			same(t, e, api.OK, l)
			for _, s := range early.Slings {
				for _, day := range []int{0, early.Day, early.Day + 5} {
					is, _ := record.Retired(l[:count], s.Name, day)
					if !is {
						continue
					}
					stayed++
					for _, later := range []int{day, day + 1, day + 100, api.MaxDay} {
						is, e := record.Retired(l, s.Name, later)
						sameResult(t, is, e, true, api.OK, l, count, s, day, later)
					}
				}
			}
		}
	}
	same(t, stayed > 1000, true, stayed)
}

// No sling is used more often than it may be, or above half of the load with which it was last tested before.
func TestUsesOfSlings(t *testing.T) {
	source := seeded()
	uses := 0
	for range 400 {
		l := randomEvents(source, 80)
		r, _, e := record.Replay(l)
		same(t, e, api.OK, l)
		for _, s := range r.Slings {
			numbers, _ := record.History(l, s.Name)
			load, used := 0, 0
			for _, number := range numbers {
				switch x := l[number-1]; x.Kind {
				case "test":
					load = x.Values[1]
				case "use":
					used++
					same(t, 2*x.Values[1] <= load, true, l, number)
				}
			}
			same(t, []any{s.Used, used <= s.Uses}, []any{used, true}, l, s)
			uses += used
		}
	}
	same(t, uses > 200, true, uses)
}

// gather gathers notes that have to agree.
func gather(t *testing.T, a, b []record.Note) []record.Note {
	t.Helper()
	gathered, e := record.Gather(a, b)
	same(t, e, api.OK, a, b)
	return gathered
}

func TestGatheringInAnyOrder(t *testing.T) {
	source := seeded()
	for range 300 {
		all := randomNotes(source, 40)
		a, b, c := someOf(source, all), someOf(source, all), someOf(source, all)
		same(t, gather(t, a, b), gather(t, b, a), a, b)
		same(t, gather(t, gather(t, a, b), c), gather(t, a, gather(t, b, c)), a, b, c)
		same(t, gather(t, a, a), a)
		same(t, gather(t, gather(t, a, b), b), gather(t, a, b), a, b)
		same(t, record.CheckNotes(gather(t, a, b)), api.OK)
	}
}

// Two who may not be gathered may not be in the other order, either.
func TestConflictsInAnyOrder(t *testing.T) {
	source := seeded()
	conflicts := 0
	for range 1000 {
		a, b := someOf(source, randomNotes(source, 12)), someOf(source, randomNotes(source, 12))
		gathered, e := record.Gather(a, b)
		other, code := record.Gather(b, a)
		sameResult(t, other, code, gathered, e, a, b)
		if e == api.ErrConflict {
			conflicts++
		}
	}
	same(t, conflicts > 100 && conflicts < 990, true, conflicts)
}

// Whoever asks for what is lacking has all in the end, whatever was lost before.
func TestAskingForWhatIsLacking(t *testing.T) {
	source := seeded()
	for range 300 {
		all := randomNotes(source, 40)
		mine, theirs := someOf(source, all), someOf(source, all)
		for _, sender := range [][]record.Note{theirs, all} {
			v, _ := record.Vector(mine)
			lacking, e := record.Lacking(sender, v)
			same(t, e, api.OK)
			same(t, gather(t, mine, lacking), gather(t, mine, sender), mine, sender)
			mine = gather(t, mine, someOf(source, lacking)) // some are lost again
		}
		v, _ := record.Vector(mine)
		lacking, _ := record.Lacking(all, v)
		mine = gather(t, mine, lacking)
		same(t, mine, all)
		v, _ = record.Vector(mine)
		lacking, _ = record.Lacking(all, v)
		same(t, len(lacking), 0, all)
	}
}

func TestTheFoldDoesNotDependOnTheWay(t *testing.T) {
	source := seeded()
	for range 200 {
		all := randomNotes(source, 40)
		folded, aside, e := record.Fold(all)
		same(t, e, api.OK, all)
		_, place, e := record.Replay(folded)
		same(t, []any{place, e, len(folded) + len(aside)}, []any{0, api.OK, len(all)}, all)
		var arrived []record.Note
		for _, i := range source.Perm(len(all)) {
			arrived = gather(t, all[i:i+1], arrived)
			if source.Intn(3) == 0 {
				arrived = gather(t, arrived, all[i:i+1])
			}
		}
		again, againAside, e := record.Fold(arrived)
		sameResult(t, []any{again, againAside}, e, []any{folded, aside}, api.OK, all)
	}
}

// A certificate that is retired is not used again, whichever desk hears of it last.
func TestDesksThatHearLate(t *testing.T) {
	l := []record.Note{
		note("x", 1, 1, "make a b 10 100 9"), note("x", 2, 2, "test a 10 401"), note("x", 3, 9, "use a 12 5"), note("y", 1, 3, "use a 10 200"), note("y", 2, 4, "fail a 11"), note("y", 3, 7, "use a 12 1"),
		note("z", 1, 5, "use a 11 1"), note("z", 2, 8, "test a 12 500"),
	}
	folded, aside, e := record.Fold(l)
	same(t, e, api.OK)
	same(t, folded, events("make a b 10 100 9", "test a 10 401", "use a 10 200", "fail a 11"))
	same(t, aside, []record.Mark{{Desk: "z", Number: 1}, {Desk: "y", Number: 3}, {Desk: "z", Number: 2}, {Desk: "x", Number: 3}})
}

func TestAChangedByteIsFound(t *testing.T) {
	log := logOf(events("make a b 10 100 2", "test a 10 401", "undo", "recall b 99999"))
	for at := range len(log) {
		if log[at] == '\n' {
			continue
		}
		changed := []byte(log)
		for value := range 256 {
			if value == '\n' || byte(value) == log[at] {
				continue
			}
			changed[at] = byte(value)
			l, length, e := record.Recover(string(changed))
			same(t, e != api.OK && len(l) == strings.Count(log[:at], "\n") && length == strings.LastIndex(log[:at], "\n")+1, true, at, value, e)
		}
	}
}

// After a crash at any byte each event is there once: those whose records are whole, and then those that are done again.
func TestACrashAtAnyByte(t *testing.T) {
	source := seeded()
	for range 20 {
		l := randomEvents(source, 25)
		log := logOf(l)
		for at := range len(log) + 1 {
			whole := strings.Count(log[:at], "\n")
			length := strings.LastIndex(log[:at], "\n") + 1
			code := api.OK
			if length < at {
				code = api.ErrTorn
			}
			checkRecover(t, log[:at], l[:whole], length, code)
			s, e := record.Load(log[:at])
			same(t, e, api.OK, at)
			checkSession(t, s, l[:whole], at)
			for _, x := range l[whole:] {
				answer, e := s.Do(lineOf(x))
				sameResult(t, answer, e, "done "+strconv.Itoa(x.Number), api.OK, at, x)
			}
			checkSession(t, s, l, at)
		}
	}
}

func TestUndoingEverything(t *testing.T) {
	source := seeded()
	for range 100 {
		l := randomEvents(source, 60)
		s, e := record.Load(logOf(l))
		same(t, e, api.OK)
		for range countingIn(l) {
			_, e := s.Do("undo")
			same(t, e, api.OK, l)
		}
		_, e = s.Do("undo")
		same(t, e, api.ErrEmpty, l)
		r, _, e := record.Replay(s.Events())
		sameResult(t, r, e, record.Register{}, api.OK, l)
		answer, e := s.Do("slings")
		sameResult(t, answer, e, "none", api.OK, l)
	}
}

// An undo leads back to the register before the last event that counts.
func TestAnUndoLeadsBack(t *testing.T) {
	source := seeded()
	for range 200 {
		l := randomEvents(source, 30)
		for range 10 {
			x := randomEvent(source, l)
			if x.Kind == "undo" || errorAfter(l, x) != api.OK {
				continue
			}
			before, _, _ := record.Replay(l)
			back, _, e := record.Replay(with(l, x, event(strconv.Itoa(len(l)+2)+" undo")))
			sameResult(t, back, e, before, api.OK, l, x)
		}
	}
}

// call is a list of arguments for all functions.
type call struct {
	l    []api.Event
	e    api.Event
	name string
	day  int
	a, b []record.Note
	v    []record.Mark
	log  string
	line string
}

// outcome is what a function has returned.
type outcome struct {
	results []any
	e       api.Errno
}

// callAll returns what all functions return.
func callAll(x call) map[string]outcome {
	outcomes := map[string]outcome{}
	add := func(name string, e api.Errno, results ...any) { outcomes[name] = outcome{results, e} }
	add("CheckEvent", record.CheckEvent(x.e))
	r, place, e := record.Replay(x.l)
	add("Replay", e, r)
	add("the place of Replay", api.OK, place)
	add("Accepts", record.Accepts(x.l, x.e))
	history, e := record.History(x.l, x.name)
	add("History", e, history)
	is, e := record.Retired(x.l, x.name, x.day)
	add("Retired", e, is)
	limit, e := record.Certificate(x.l, x.name, x.day)
	add("Certificate", e, limit)
	names, e := record.Due(x.l, x.day)
	add("Due", e, names)
	names, e = record.Batch(x.l, x.name)
	add("Batch", e, names)
	add("CheckNotes", record.CheckNotes(x.a))
	callNotes(x, add)
	log, e := record.Append(x.log, x.e)
	add("Append", e, log)
	events, length, e := record.Recover(x.log)
	add("Recover", api.OK, events, length, e)
	callSession(x, add)
	return outcomes
}

func callNotes(x call, add func(name string, e api.Errno, results ...any)) {
	gathered, e := record.Gather(x.a, x.b)
	add("Gather", e, gathered)
	v, e := record.Vector(x.a)
	add("Vector", e, v)
	lacking, e := record.Lacking(x.a, x.v)
	add("Lacking", e, lacking)
	folded, aside, e := record.Fold(x.a)
	add("Fold", e, folded, aside)
}

func callSession(x call, add func(name string, e api.Errno, results ...any)) {
	s, e := record.Load(x.log)
	add("Load", e, s.Events(), s.Log())
	answer, e := s.Do(x.line)
	add("Do", e, answer)
	add("Events", api.OK, s.Events())
	answer, e = record.New().Do(x.line)
	add("Do of a new session", e, answer)
}

// isNothing tells whether a result is the zero value of its type.
func isNothing(result any) bool {
	value := reflect.ValueOf(result)
	if r, ok := result.(record.Register); ok {
		return r.Day == 0 && len(r.Slings) == 0
	}
	return value.Kind() == reflect.Slice && value.Len() == 0 || value.IsZero()
}

// anyEvent returns an event of any form.
func anyEvent(source *rand.Rand) api.Event {
	e := api.Event{Number: pick(source, []int{1, 1, 2, 0, math.MinInt, math.MaxInt}), Kind: pick(source, []string{"make", "test", "use", "fail", "recall", "undo", "", "x"})}
	for range source.Intn(4) {
		e.Names = append(e.Names, pick(source, with(badNames(), "a", "b", "c")))
		e.Values = append(e.Values, pick(source, []int{0, 1, 5, -1, math.MinInt, math.MaxInt, 99999, 999999999}))
	}
	return e
}

// anyCall returns arguments that often have no errors.
func anyCall(source *rand.Rand) call {
	l := randomEvents(source, 30)
	notes := randomNotes(source, 20)
	x := call{
		l: l, e: randomEvent(source, l), name: pick(source, []string{"a", "b", "x", "y"}), day: bookOf(l).day, a: someOf(source, notes), b: someOf(source, notes), log: logOf(l), line: randomLine(source, l),
	}
	x.v = vectorOf(x.b)
	if names := texts(bookOf(l).register().Slings, func(s record.Sling) bool { return certified(s, x.day) }); len(names) > 0 && source.Intn(2) == 0 {
		x.name = pick(source, names)
	}
	switch source.Intn(12) {
	case 0:
		x.l = append(x.l, anyEvent(source))
	case 1:
		x.e = anyEvent(source)
	case 2:
		x.name, x.day = pick(source, badNames()), pick(source, []int{-1, math.MinInt, math.MaxInt, 100000})
	case 3:
		x.a = append(x.a, note(pick(source, badNames()), source.Intn(3), source.Intn(3), pick(source, badLines())))
	case 4:
		x.b, x.v = append(x.b, record.Note{}), append(x.v, record.Mark{Number: source.Intn(3)})
	case 5:
		x.log = randomText(source)
	case 6:
		x.line = pick(source, badLines())
	}
	return x
}

// roomy returns arguments that share no memory with these, with room behind the last elements of lists.
func roomy(x call) call {
	x.l, x.e = deepCopy(x.l), deepCopy([]api.Event{x.e})[0]
	x.a, x.b, x.v = withRoom(x.a), withRoom(x.b), withRoom(x.v)
	return x
}

// sameArguments fails the test if arguments are not what they were, also behind their last elements.
func sameArguments(t *testing.T, got, wanted call, what ...any) {
	t.Helper()
	same(t, whole(got), whole(wanted), what...)
}

func whole(x call) []any {
	list := []any{x.l[:cap(x.l)], x.e, x.a[:cap(x.a)], x.b[:cap(x.b)], x.v[:cap(x.v)], len(x.l), len(x.a), len(x.b), len(x.v)}
	for _, e := range append(slices.Clone(x.l), x.e) {
		list = append(list, e.Names[:cap(e.Names)], e.Values[:cap(e.Values)])
	}
	return list
}

func TestAnyArguments(t *testing.T) {
	source := seeded()
	good := map[string]int{}
	for range 1500 {
		x := roomy(anyCall(source))
		given := roomy(x)
		for name, got := range callAll(x) {
			if got.e == api.OK {
				good[name]++
			} else {
				same(t, slices.ContainsFunc(got.results, func(x any) bool { return !isNothing(x) }), false, name, got)
			}
		}
		sameArguments(t, x, given, "an argument was changed")
	}
	for name := range callAll(call{}) {
		same(t, good[name] > 50, true, name, good[name])
	}
}

func TestDeterminism(t *testing.T) {
	source := seeded()
	for range 200 {
		x := anyCall(source)
		first := callAll(x)
		for name, got := range callAll(roomy(x)) {
			sameResult(t, got.results, got.e, first[name].results, first[name].e, name, x)
		}
	}
}

// goodCall returns arguments without errors, and with results that are not empty.
func goodCall() call {
	l := after(events("make a a 1 9999 5", "test a 1 10", "use a 1 5"), "make b a 1 99 5")
	return roomy(call{l, next(l, "fail b 1"), "a", 5, chapterNotes(), chapterNotes()[:1], []record.Mark{{Desk: "x", Number: 1}}, logOf(l), "slings"})
}

// wipe changes all memory of a result, also behind the last elements of lists.
func wipe(result any) {
	switch x := result.(type) {
	case []int:
		clear(x[:cap(x)])
	case []string:
		clear(x[:cap(x)])
	case []record.Note:
		clear(x[:cap(x)])
	case []record.Mark:
		clear(x[:cap(x)])
	case record.Register:
		clear(x.Slings[:cap(x.Slings)])
	case []api.Event:
		for _, e := range x {
			wipe(e.Names)
			wipe(e.Values)
		}
		clear(x[:cap(x)])
	}
}

// Arguments and results share no memory, nor do two results.
func TestMemory(t *testing.T) {
	wanted := callAll(goodCall())
	for name, got := range wanted {
		same(t, got.e, api.OK, name)
		if !slices.Contains([]string{"the place of Replay", "Retired"}, name) && len(got.results) > 0 {
			same(t, isNothing(got.results[0]), false, name)
		}
	}
	x := goodCall()
	for name := range wanted {
		first := callAll(x)
		for _, result := range first[name].results {
			wipe(result)
		}
		sameArguments(t, x, goodCall(), name)
		for other, got := range first {
			if other != name {
				sameResult(t, got.results, got.e, wanted[other].results, wanted[other].e, name, other)
			}
		}
	}
}

// No two lists of one result share memory.
func TestMemoryOfOneResult(t *testing.T) {
	folded, aside, _ := record.Fold([]record.Note{note("x", 1, 1, "make a b 1 99 9"), note("x", 2, 2, "test a 1 9"), note("x", 3, 3, "fail c 1")})
	recovered, _, _ := record.Recover(logOf(chapterEvents()))
	session, _ := record.Load(logOf(chapterEvents()))
	for _, l := range [][]api.Event{folded, recovered, session.Events()} {
		wanted := deepCopy(l)
		for i, e := range l {
			wipe(e.Names)
			wipe(e.Values)
			same(t, l[i+1:], wanted[i+1:])
			same(t, e.Kind, wanted[i].Kind)
		}
	}
	same(t, aside, []record.Mark{{Desk: "x", Number: 3}})
}

func TestHugeArguments(t *testing.T) {
	x := call{
		l: make([]api.Event, 1<<20), e: api.Event{Number: 1, Kind: "make", Names: make([]string, 1<<20), Values: make([]int, 1<<20)}, name: strings.Repeat("a", 1<<20), day: math.MaxInt,
		a: make([]record.Note, 1<<20), b: make([]record.Note, 1<<20), v: make([]record.Mark, 1<<20), log: strings.Repeat("\n", 1<<20), line: strings.Repeat("slings", 1<<20),
	}
	outcomes := callAll(x)
	for name, got := range outcomes {
		wanted := api.ErrMany
		switch name {
		case "Recover", "Events", "the place of Replay":
			wanted = api.OK
		case "CheckEvent":
			wanted = api.ErrShape
		case "Append", "Load", "Do of a new session":
			wanted = api.ErrLong
		case "Do":
			wanted = api.ErrState
		}
		same(t, got.e, wanted, name)
	}
	l := []record.Note{note("x", 1, 1, "make "+strings.Repeat("a", 1<<20)+" b 1 1 1"), note("x", 2, 2, "fail "+strings.Repeat(" ", 1<<20)), note(strings.Repeat("x", 1<<20), 1, 1, "")}
	same(t, record.CheckNotes(l[:1]), api.OK)
	same(t, record.CheckNotes(l[:2]), api.ErrSyntax)
	same(t, record.CheckNotes(l[2:]), api.ErrName)
	_, aside, e := record.Fold(l[:1])
	sameResult(t, aside, e, []record.Mark{{Desk: "x", Number: 1}}, api.OK)
}

// The longest logs, in which all slings are made, recalled and undone, are no trouble.
func TestGreatLogs(t *testing.T) {
	var lines []string
	for i := range 120 {
		lines = append(lines, "make s"+strconv.Itoa(i)+" b 0 9999 9999", "recall b 0")
	}
	lines = append(lines, slices.Repeat([]string{"undo"}, 240)...)
	l := events(lines...)
	r, place, e := record.Replay(l)
	sameResult(t, []any{r, place}, e, []any{record.Register{}, 0}, api.OK)
	half, _, e := record.Replay(l[:360])
	sameResult(t, len(half.Slings), e, 60, api.OK)
}
