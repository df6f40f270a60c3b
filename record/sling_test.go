package record_test

import (
	"math"
	"testing"

	"becket/api"
	"becket/record"
)

// The tests of P10.2.

// ask returns the results of all functions about a sling, a batch and a day, with their errors.
func ask(l []api.Event, name string, day int) []any {
	history, e1 := record.History(l, name)
	is, e2 := record.Retired(l, name, day)
	limit, e3 := record.Certificate(l, name, day)
	names, e4 := record.Due(l, day)
	members, e5 := record.Batch(l, name)
	return []any{history, e1, is, e2, limit, e3, names, e4, members, e5}
}

// asked returns what these results have to be, for a name and a day without errors.
func asked(l []api.Event, name string, day int) []any {
	b := bookOf(l)
	slings := b.register().Slings
	names := texts(slings, func(s record.Sling) bool { return due(s, day) })
	members := texts(slings, func(s record.Sling) bool { return s.Batch == name })
	errorOfBatch := api.OK
	if len(members) == 0 {
		errorOfBatch = api.ErrUnknown
	}
	s, known := b.slings[name]
	switch {
	case !known:
		return []any{[]int{}, api.ErrUnknown, false, api.ErrUnknown, 0, api.ErrUnknown, names, api.OK, members, errorOfBatch}
	case retired(s, day):
		return []any{historyIn(l, name), api.OK, true, api.OK, 0, api.ErrOver, names, api.OK, members, errorOfBatch}
	case !certified(s, day):
		return []any{historyIn(l, name), api.OK, false, api.OK, 0, api.ErrOpen, names, api.OK, members, errorOfBatch}
	}
	return []any{historyIn(l, name), api.OK, false, api.OK, s.Limit, api.OK, names, api.OK, members, errorOfBatch}
}

func TestHistory(t *testing.T) {
	for _, example := range []struct {
		l     []api.Event
		sling string
		list  []int
	}{
		{chapterEvents(), "a", []int{1, 2, 3}}, {after(chapterEvents(), "undo"), "a", []int{1, 2}},
		{events("make a b 1 9 9", "recall b 2", "make c b 2 9 9", "recall b 3"), "a", []int{1, 2, 4}},
		{events("make a b 1 9 9", "recall b 2", "make c b 2 9 9", "recall b 3"), "c", []int{3, 4}},
		{events("make a b 1 9 9", "make c d 2 9 9", "recall d 3", "fail a 3"), "a", []int{1, 4}},
		{events("make a b 1 9 9", "make b a 2 9 9", "recall b 3", "recall a 3"), "a", []int{1, 3}},
		{events("make a b 1 9 9", "make b a 2 9 9", "recall b 3", "recall a 3"), "b", []int{2, 4}},
		{events("make c a 1 9 9", "recall a 2", "make a a 2 9 9", "test a 2 10", "recall a 2"), "a", []int{3, 4, 5}},
		{events("make a b 1 9 9", "fail a 2", "undo", "undo", "make a c 0 9 9", "test a 5 10", "undo", "test a 4 7"), "a", []int{5, 8}},
		{events("make a b 1 9 9", "test a 2 9", "recall b 2", "undo", "use a 2 4"), "a", []int{1, 2, 5}},
	} {
		list, e := record.History(example.l, example.sling)
		sameResult(t, list, e, example.list, api.OK, example.l, example.sling)
	}
}

func TestRetiredAndCertificate(t *testing.T) {
	l := events("make a b 10 100 2", "make c b 10 9999 1", "make d x 10 5 5", "test a 11 401", "test c 11 20", "test d 11 7")
	worn := after(l, "use c 12 10")
	failed, recalled := after(l, "fail a 12"), after(l, "recall b 12")
	for _, example := range []struct {
		l     []api.Event
		sling string
		day   int
		is    bool
		limit int
		e     api.Errno
	}{
		{l, "a", 0, false, 200, api.OK}, {l, "a", 110, false, 200, api.OK}, {l, "a", 111, true, 0, api.ErrOver}, {l, "a", 99999, true, 0, api.ErrOver},
		{l, "c", 376, false, 10, api.OK}, {l, "c", 377, false, 0, api.ErrOpen}, {l, "c", 10009, false, 0, api.ErrOpen}, {l, "c", 10010, true, 0, api.ErrOver},
		{l, "d", 15, false, 3, api.OK}, {l, "d", 16, true, 0, api.ErrOver}, {worn, "c", 0, true, 0, api.ErrOver}, {worn, "c", 12, true, 0, api.ErrOver}, {worn, "a", 12, false, 200, api.OK},
		{failed, "a", 0, true, 0, api.ErrOver}, {failed, "c", 5, false, 10, api.OK}, {recalled, "a", 5, true, 0, api.ErrOver}, {recalled, "c", 5, true, 0, api.ErrOver}, {recalled, "d", 5, false, 3, api.OK},
		{l[:3], "a", 10, false, 0, api.ErrOpen}, {l[:3], "a", 0, false, 0, api.ErrOpen}, {l[:3], "a", 111, true, 0, api.ErrOver},
	} {
		is, e := record.Retired(example.l, example.sling, example.day)
		sameResult(t, is, e, example.is, api.OK, example)
		limit, e := record.Certificate(example.l, example.sling, example.day)
		sameResult(t, limit, e, example.limit, example.e, example)
	}
}

func TestDueAndBatch(t *testing.T) {
	l := events("make d x 1 9999 5", "make b y 1 50 5", "make a x 1 9999 5", "make c x 1 9999 1", "test d 1 10", "test c 1 10", "use c 1 5", "make Z x 1 9999 1")
	for day, wanted := range map[int][]string{
		0: {"Z", "a", "b"}, 51: {"Z", "a", "b"}, 52: {"Z", "a"}, 366: {"Z", "a"}, 367: {"Z", "a", "d"}, 10000: {"Z", "a", "d"}, 10001: {}, 99999: {},
	} {
		names, e := record.Due(l, day)
		sameResult(t, names, e, wanted, api.OK, day)
	}
	for batch, wanted := range map[string][]string{"x": {"Z", "a", "c", "d"}, "y": {"b"}} {
		for _, l := range [][]api.Event{l, after(l, "recall x 9")} {
			names, e := record.Batch(l, batch)
			sameResult(t, names, e, wanted, api.OK, batch)
		}
	}
	names, e := record.Due(nil, 5)
	sameResult(t, names, e, []string{}, api.OK)
	undone := after(l, "undo")
	names, e = record.Batch(undone, "x")
	sameResult(t, names, e, []string{"a", "c", "d"}, api.OK)
}

// The errors come in the order events, name, day, and whether there is such a thing.
func TestErrorsOfQuestions(t *testing.T) {
	nothing := func(history, sling, day, batch api.Errno) []any {
		return []any{[]int{}, history, false, sling, 0, sling, []string{}, day, []string{}, batch}
	}
	for _, day := range []int{-1, 100000, math.MinInt, math.MaxInt} {
		for _, name := range badNames() {
			same(t, ask(chapterEvents(), name, day), nothing(api.ErrName, api.ErrName, api.ErrRange, api.ErrName), name, day)
			same(t, ask(chapterEvents()[1:], name, day), nothing(api.ErrOrder, api.ErrOrder, api.ErrOrder, api.ErrOrder), name, day)
			same(t, ask(make([]api.Event, 1001), name, day), nothing(api.ErrMany, api.ErrMany, api.ErrMany, api.ErrMany), name, day)
		}
		same(t, ask(chapterEvents(), "z", day), nothing(api.ErrUnknown, api.ErrRange, api.ErrRange, api.ErrUnknown), day)
		same(t, ask(chapterEvents(), "a", day)[2:8], nothing(api.OK, api.ErrRange, api.ErrRange, api.OK)[2:8], day)
	}
	for _, name := range badNames() {
		same(t, ask(nil, name, 5), nothing(api.ErrName, api.ErrName, api.OK, api.ErrName), name)
	}
	for _, name := range []string{"z", "A", "aa"} {
		same(t, ask(chapterEvents(), name, 110), nothing(api.ErrUnknown, api.ErrUnknown, api.OK, api.ErrUnknown), name)
	}
	same(t, ask(nil, "a", 0), nothing(api.ErrUnknown, api.ErrUnknown, api.OK, api.ErrUnknown))
	undone := events("make a b 1 1 1", "undo")
	same(t, ask(undone, "a", 0), nothing(api.ErrUnknown, api.ErrUnknown, api.OK, api.ErrUnknown))
	same(t, ask(undone, "b", 0), nothing(api.ErrUnknown, api.ErrUnknown, api.OK, api.ErrUnknown))
}

func TestQuestionsOfRandomEvents(t *testing.T) {
	source := seeded()
	for range 250 {
		l := randomEvents(source, 60)
		for _, name := range []string{"a", "b", "B", "a1", "x", "y"} {
			for _, day := range []int{0, bookOf(l).day, bookOf(l).day + source.Intn(20), source.Intn(500), 99999} {
				same(t, ask(l, name, day), asked(l, name, day), l, name, day)
			}
		}
	}
}
