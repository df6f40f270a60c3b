package record_test

import (
	"math"
	"slices"
	"strings"
	"testing"

	"becket/api"
	"becket/record"
)

// The tests of P10.1.

// goodEvents returns an event of each kind, with the least and with the greatest numbers and names.
func goodEvents() []api.Event {
	long := strings.Repeat("Z", 24)
	return []api.Event{
		event("1 make a b 0 0 0"), event("1000 make " + long + " a 999999999 999999999 999999999"), event("7 test a 0 0"),
		event("7 test a_9 999999999 999999999"), event("7 use a 0 0"), event("7 fail " + long + " 0"), event("7 recall b 999999999"), event("1000 undo"),
	}
}

// eventFaults returns the faults that an event may have, in the order of their errors.
func eventFaults(good api.Event) []fault[api.Event] {
	var faults []fault[api.Event]
	add := func(e api.Errno, change func(x *api.Event)) { faults = append(faults, fault[api.Event]{change, e}) }
	for _, number := range []int{0, -1, 1001, math.MinInt, math.MaxInt} {
		add(api.ErrRange, func(x *api.Event) { x.Number = number })
	}
	for _, kind := range []string{"", "Make", "makes", "make ", "un", "sling", "\xff"} {
		add(api.ErrKind, func(x *api.Event) { x.Kind = kind })
	}
	for _, more := range []string{"a", "", "-"} {
		add(api.ErrShape, func(x *api.Event) { x.Names = append(slices.Clone(good.Names), more) })
	}
	for _, more := range []int{1, -1} {
		add(api.ErrShape, func(x *api.Event) { x.Values = append(slices.Clone(good.Values), more) })
	}
	if len(good.Names) > 0 {
		add(api.ErrShape, func(x *api.Event) { x.Names = good.Names[1:] })
		add(api.ErrShape, func(x *api.Event) { x.Values = good.Values[1:] })
	}
	for i := range good.Names {
		for _, name := range badNames() {
			add(api.ErrName, func(x *api.Event) { x.Names = slices.Clone(good.Names); x.Names[i] = name })
		}
	}
	for i := range good.Values {
		for _, value := range badInts(999999999) {
			add(api.ErrRange, func(x *api.Event) { x.Values = slices.Clone(good.Values); x.Values[i] = value })
		}
	}
	for _, text := range []string{"x", " ", "\n"} {
		add(api.ErrForm, func(x *api.Event) { x.Text = text })
	}
	return faults
}

func TestCheckEvent(t *testing.T) {
	for _, good := range goodEvents() {
		copied := func() api.Event { return deepCopy([]api.Event{good})[0] }
		checkFaults(t, copied, eventFaults(good), record.CheckEvent)
	}
	same(t, record.CheckEvent(api.Event{}), api.ErrRange)
	same(t, record.CheckEvent(api.Event{Number: 1, Kind: "make"}), api.ErrShape)
}

func TestReplayOfTheChapter(t *testing.T) {
	l := chapterEvents()
	a := record.Sling{Name: "a", Batch: "b", Born: 10, Last: 110, Uses: 2}
	r, place, e := record.Replay(nil)
	sameResult(t, []any{r, place}, e, []any{record.Register{}, 0}, api.OK)
	for count, change := range []func(){func() {}, func() { a.Limit, a.Until = 200, 110 }, func() { a.Used = 1 }} {
		change()
		r, place, e := record.Replay(l[:count+1])
		wanted := record.Register{Day: []int{10, 10, 11}[count], Slings: []record.Sling{a}}
		sameResult(t, []any{r, place}, e, []any{wanted, 0}, api.OK, count)
	}
}

// What each kind does, beyond the chapter's example.
func TestWhatEventsDo(t *testing.T) {
	a, c := record.Sling{Name: "a", Batch: "b", Born: 5, Last: 1005, Uses: 3}, record.Sling{Name: "c", Batch: "b", Born: 5, Last: 6, Uses: 1}
	for _, example := range []struct {
		lines []string
		day   int
		make  func(a, c *record.Sling)
	}{
		{nil, 5, func(a, c *record.Sling) {}},
		{[]string{"test a 6 2"}, 6, func(a, c *record.Sling) { a.Limit, a.Until = 1, 371 }},
		{[]string{"test a 6 3"}, 6, func(a, c *record.Sling) { a.Limit, a.Until = 1, 371 }},
		{[]string{"test a 640 999999999"}, 640, func(a, c *record.Sling) { a.Limit, a.Until = 499999999, 1005 }},
		{[]string{"test a 639 999999999"}, 639, func(a, c *record.Sling) { a.Limit, a.Until = 499999999, 1004 }},
		{[]string{"test c 6 10"}, 6, func(a, c *record.Sling) { c.Limit, c.Until = 5, 6 }},
		{[]string{"test a 6 20", "test a 7 11"}, 7, func(a, c *record.Sling) { a.Limit, a.Until = 5, 372 }},
		{[]string{"test a 6 20", "use a 371 10"}, 371, func(a, c *record.Sling) { a.Limit, a.Until, a.Used = 10, 371, 1 }},
		{[]string{"test a 6 20", "use a 6 0", "use a 6 0"}, 6, func(a, c *record.Sling) { a.Limit, a.Until, a.Used = 10, 371, 2 }},
		{[]string{"fail c 6"}, 6, func(a, c *record.Sling) { c.Gone = true }},
		{[]string{"test a 5 20", "fail a 6"}, 6, func(a, c *record.Sling) { a.Limit, a.Until, a.Gone = 10, 370, true }},
		{[]string{"recall b 6"}, 6, func(a, c *record.Sling) { a.Gone, c.Gone = true, true }},
		{[]string{"fail a 6", "recall b 6"}, 6, func(a, c *record.Sling) { a.Gone, c.Gone = true, true }},
		{[]string{"recall b 1000"}, 1000, func(a, c *record.Sling) { a.Gone, c.Gone = true, true }},
		{[]string{"recall b 1000", "undo"}, 5, func(a, c *record.Sling) {}},
		{[]string{"fail a 90", "undo", "fail c 6"}, 6, func(a, c *record.Sling) { c.Gone = true }},
		{[]string{"test a 6 20", "test a 7 11", "undo"}, 6, func(a, c *record.Sling) { a.Limit, a.Until = 10, 371 }},
		{[]string{"test a 6 20", "fail a 7", "undo", "fail c 6", "undo", "undo"}, 5, func(a, c *record.Sling) {}},
	} {
		l := events(append([]string{"make c b 5 1 1", "make a b 5 1000 3"}, example.lines...)...)
		wantedA, wantedC := a, c
		example.make(&wantedA, &wantedC)
		r, place, e := record.Replay(l)
		wanted := record.Register{Day: example.day, Slings: []record.Sling{wantedA, wantedC}}
		sameResult(t, []any{r, place}, e, []any{wanted, 0}, api.OK, example.lines)
	}
}

func TestSlingsAscendByBytes(t *testing.T) {
	names := []string{"b", "a_", "B", "a", "aa", "Z", "a1"}
	var lines []string
	for _, name := range names {
		lines = append(lines, "make "+name+" x 1 1 1")
	}
	r, _, e := record.Replay(events(lines...))
	sameResult(t, texts(r.Slings, func(record.Sling) bool { return true }), e, []string{"B", "Z", "a", "a1", "a_", "aa", "b"}, api.OK)
}

// An event is accepted, or has the first of the errors that apply.
func TestRefusals(t *testing.T) {
	made := []string{"make a b 10 100 2"}
	tested := with(made, "test a 10 401")
	worn := with(tested, "use a 11 200", "use a 12 0")
	gone := with(tested, "make c b 20 9999 5", "fail a 20")
	for _, example := range []struct {
		before []string
		line   string
		e      api.Errno
	}{
		{nil, "make a b 0 1 1", api.OK}, {nil, "make a a 99998 1 1", api.OK}, {nil, "make a b 99999 1 1", api.ErrRange}, {nil, "make a b 90000 9999 9999", api.OK},
		{nil, "make a b 90001 9999 1", api.ErrRange}, {nil, "make a b 100000 0 1", api.ErrRange}, {nil, "make a b 1 0 1", api.ErrRange}, {nil, "make a b 1 10000 1", api.ErrRange},
		{nil, "make a b 1 1 0", api.ErrRange}, {nil, "make a b 1 1 10000", api.ErrRange}, {nil, "make a b 1 9999 9999", api.OK}, {nil, "make a b 999999999 999999999 1", api.ErrRange},
		{made, "make a c 10 1 1", api.ErrTwice}, {made, "make a c 10 0 0", api.ErrTwice}, {made, "make a c 99999 5 5", api.ErrTwice}, {made, "make a c 9 1 1", api.ErrState},
		{made, "make a c 100000 1 1", api.ErrRange}, {made, "make b b 10 1 1", api.OK}, {made, "make c b 9 0 1", api.ErrState}, {gone, "make a b 20 1 1", api.ErrTwice},
		{nil, "test a 0 2", api.ErrUnknown}, {nil, "test a 100000 2", api.ErrRange}, {made, "test b 10 1", api.ErrUnknown}, {made, "test b 9 1", api.ErrState},
		{made, "test a 10 0", api.ErrRange}, {made, "test a 10 1", api.ErrRange}, {made, "test a 10 2", api.OK}, {made, "test a 10 999999999", api.OK}, {made, "test a 9 2", api.ErrState},
		{made, "test a 110 2", api.OK}, {made, "test a 111 2", api.ErrOver}, {made, "test a 111 1", api.ErrOver}, {worn, "test a 12 1", api.ErrOver}, {gone, "test a 20 2", api.ErrOver},
		{made, "use a 10 0", api.ErrOpen}, {made, "use a 10 1", api.ErrOpen}, {made, "use b 10 0", api.ErrUnknown}, {made, "use a 111 0", api.ErrOver}, {made, "use a 9 0", api.ErrState},
		{tested, "use a 10 200", api.OK}, {tested, "use a 10 201", api.ErrLoad}, {tested, "use a 110 200", api.OK}, {tested, "use a 111 0", api.ErrOver}, {tested, "use a 10 999999999", api.ErrLoad},
		{worn, "use a 12 0", api.ErrOver}, {worn, "use a 12 999", api.ErrOver}, {worn, "use a 11 0", api.ErrState}, {gone, "use a 20 1", api.ErrOver}, {gone, "use c 20 1", api.ErrOpen},
		{made, "fail a 10", api.OK}, {made, "fail a 110", api.OK}, {made, "fail a 111", api.ErrOver}, {worn, "fail a 12", api.ErrOver}, {gone, "fail a 20", api.ErrOver},
		{made, "fail b 10", api.ErrUnknown}, {made, "fail b 100000", api.ErrRange}, {made, "fail a 99999", api.ErrOver}, {made, "fail b 9", api.ErrState}, {nil, "fail a 0", api.ErrUnknown},
		{made, "recall b 10", api.OK}, {made, "recall b 110", api.OK}, {made, "recall b 111", api.ErrOver}, {made, "recall a 10", api.ErrUnknown}, {made, "recall a 9", api.ErrState},
		{worn, "recall b 12", api.ErrOver}, {gone, "recall b 20", api.OK}, {gone, "recall b 9999", api.OK}, {gone, "recall b 10020", api.ErrOver}, {with(gone, "fail c 20"), "recall b 20", api.ErrOver},
		{nil, "undo", api.ErrEmpty}, {made, "undo", api.OK}, {with(made, "undo"), "undo", api.ErrEmpty}, {with(tested, "undo"), "undo", api.OK}, {with(tested, "undo", "undo"), "undo", api.ErrEmpty},
		{with(made, "undo"), "make a c 0 1 1", api.OK}, {with(made, "undo"), "fail a 10", api.ErrUnknown}, {with(worn, "undo"), "use a 11 200", api.OK}, {with(worn, "undo"), "use a 10 1", api.ErrState},
		{with(gone, "undo"), "use a 20 1", api.OK}, {with(gone, "undo", "undo"), "make c b 10 1 1", api.OK}, {with(gone, "undo", "undo"), "fail c 10", api.ErrUnknown},
	} {
		l := events(example.before...)
		good := next(l, example.line)
		same(t, record.Accepts(l, good), example.e, example)
		for _, number := range []int{1, len(l), len(l) + 2, 1000} {
			if number != good.Number && number > 0 {
				wrong := good
				wrong.Number = number
				same(t, record.Accepts(l, wrong), api.ErrOrder, example, number)
			}
		}
		r, place, e := record.Replay(with(l, good))
		if example.e == api.OK {
			same(t, []any{place, e}, []any{0, api.OK}, example)
		} else {
			sameResult(t, []any{r, place}, e, []any{record.Register{}, len(l) + 1}, example.e, example)
		}
	}
}

// A certificate that ends before the sling does, so that there is a day between them.
func TestCertificatesEnd(t *testing.T) {
	l := events("make a b 1 9999 5", "test a 1 10")
	for _, example := range []struct {
		line string
		e    api.Errno
	}{{"use a 366 5", api.OK}, {"use a 367 5", api.ErrOpen}, {"use a 367 6", api.ErrOpen}, {"use a 366 6", api.ErrLoad}, {"use a 10001 1", api.ErrOver}, {"test a 10000 2", api.OK}} {
		same(t, record.Accepts(l, next(l, example.line)), example.e, example)
	}
}

func TestAsManySlingsAsThereMayBe(t *testing.T) {
	l := manySlings(256)
	r, _, e := record.Replay(l)
	sameResult(t, len(r.Slings), e, 256, api.OK)
	same(t, record.Accepts(l[:255], l[255]), api.OK)
	for line, wanted := range map[string]api.Errno{
		"make t b 0 1 1": api.ErrMany, "make s100 b 0 1 1": api.ErrTwice, "make t b 0 0 1": api.ErrRange, "make t b 99999 1 1": api.ErrRange, "fail s355 0": api.OK, "recall b 0": api.OK,
	} {
		same(t, record.Accepts(l, next(l, line)), wanted, line)
	}
	l = after(l, "recall b 3")
	same(t, record.Accepts(l, next(l, "make t b 3 1 1")), api.ErrMany)
	l = after(l, "undo", "undo")
	same(t, record.Accepts(l, next(l, "make t b 0 1 1")), api.OK)
}

func TestAsManyEventsAsThereMayBe(t *testing.T) {
	full := fullEvents()
	r, place, e := record.Replay(full)
	sameResult(t, []any{r.Day, len(r.Slings), place}, e, []any{10, 1, 0}, api.OK)
	for _, x := range []struct {
		e      api.Event
		wanted api.Errno
	}{
		{event("1000 test a 10 2"), api.ErrMany}, {event("1 undo"), api.ErrMany}, {event("7 fail z 0"), api.ErrMany}, {event("1001 undo"), api.ErrRange},
		{event("1 note"), api.ErrKind}, {event("5 undo a"), api.ErrShape},
	} {
		same(t, record.Accepts(full, x.e), x.wanted, x.e)
	}
	same(t, record.Accepts(full[:999], full[999]), api.OK)
	for _, many := range [][]api.Event{with(full, event("1001 undo")), make([]api.Event, 1001)} {
		r, place, e := record.Replay(many)
		sameResult(t, []any{r, place}, e, []any{record.Register{}, 0}, api.ErrMany)
		same(t, record.Accepts(many, api.Event{}), api.ErrMany)
	}
}

// The first event with an error decides, whether it is one of its own or that with which it is not accepted.
func TestThePlaceOfTheFirstError(t *testing.T) {
	for _, example := range []struct {
		l     []api.Event
		place int
		e     api.Errno
	}{
		{events("fail a 1", "note"), 1, api.ErrUnknown}, {events("make a b 1 1 1", "note", "fail c 1"), 2, api.ErrKind}, {events("make a b 1 1 1", "fail c 1", "note"), 2, api.ErrUnknown},
		{[]api.Event{{}}, 1, api.ErrRange}, {with(chapterEvents(), event("5 undo")), 4, api.ErrOrder}, {with(chapterEvents(), event("3 undo")), 4, api.ErrOrder}, {chapterEvents()[1:], 1, api.ErrOrder},
		{with(chapterEvents(), event("4 make a b 5 x")), 4, api.ErrShape}, {with(chapterEvents(), event("9 make a b 1 1 1000000000")), 4, api.ErrRange},
		{with(chapterEvents(), event("9 make a b 1 1 1")), 4, api.ErrOrder},
	} {
		r, place, e := record.Replay(example.l)
		sameResult(t, []any{r, place}, e, []any{record.Register{}, example.place}, example.e, example.l)
		same(t, record.Accepts(example.l, api.Event{}), example.e, example.l)
	}
	same(t, record.Accepts(chapterEvents(), api.Event{}), api.ErrRange)
	same(t, record.Accepts(chapterEvents(), event("1 note")), api.ErrKind)
}

// Random events are accepted, or not, as in the model; each kind is with each of its errors.
func TestRandomEvents(t *testing.T) {
	source := seeded()
	seen := map[string]int{}
	for range 300 {
		var l []api.Event
		for range source.Intn(60) {
			x := randomEvent(source, l)
			if source.Intn(40) == 0 {
				x.Number += source.Intn(3) - 1
			}
			wanted := errorAfter(l, x)
			same(t, record.Accepts(l, x), wanted, l, x)
			seen[x.Kind+" "+string(rune('A'+wanted))]++
			if wanted == api.OK {
				l = append(l, x)
			}
		}
		r, place, e := record.Replay(l)
		sameResult(t, []any{r, place}, e, []any{bookOf(l).register(), 0}, api.OK, l)
	}
	for kind, codes := range map[string][]api.Errno{
		"make": {api.OK, api.ErrTwice, api.ErrRange, api.ErrState, api.ErrOrder}, "test": {api.OK, api.ErrUnknown, api.ErrOver, api.ErrRange, api.ErrState},
		"use": {api.OK, api.ErrUnknown, api.ErrOver, api.ErrOpen, api.ErrLoad, api.ErrState}, "fail": {api.OK, api.ErrUnknown, api.ErrOver},
		"recall": {api.OK, api.ErrUnknown, api.ErrOver}, "undo": {api.OK, api.ErrEmpty, api.ErrOrder},
	} {
		for _, code := range codes {
			same(t, seen[kind+" "+string(rune('A'+code))] > 3, true, kind, code, seen)
		}
	}
}
