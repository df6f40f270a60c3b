package machine_test

import (
	"math"
	"slices"
	"testing"

	"becket/api"
	"becket/machine"
)

// The tests of P4.4.

func TestErrorsOfWords(t *testing.T) {
	for _, bad := range badLoads() {
		checkErrorOfWords(t, bad.m, bad.l, bad.e, bad.e)
	}
	checkErrorOfWords(t, row(2), []int{2, 4}, api.ErrMeet, api.ErrMeet)
	checkErrorOfWords(t, row(3), []int{0, 3, 6, 8}, api.ErrMeet, api.ErrMeet)
	checkErrorOfWords(t, ring(2), []int{2, 4}, api.ErrKind, api.ErrMeet)
	checkErrorOfWords(t, ring(2), []int{0, 6}, api.ErrKind, api.ErrMeet)
}

// checkErrorOfWords checks that all functions of words return an error, and Crossings another one.
func checkErrorOfWords(t *testing.T, m machine.Machine, l []int, e, ofCrossings api.Errno) {
	t.Helper()
	order, got := machine.Order(m, l)
	sameResult(t, order, got, []int{}, e, "Order")
	crossings, got := machine.Crossings(m, l)
	sameResult(t, crossings, got, []machine.Crossing{}, ofCrossings, "Crossings")
	for _, n := range []int{0, 1, 1000} {
		word, got := machine.Word(m, l, n)
		sameResult(t, word, got, []int{}, e, "Word")
		strands, got := machine.Strands(m, l, n)
		sameResult(t, strands, got, []int{}, e, "Strands")
	}
}

// Each fault comes before all that follow it: an error of the machine, one of the load, a ring, too many carriers, steps
// out of range, and a meeting.
func TestErrorsOfWordsInTheirOrder(t *testing.T) {
	type given struct {
		m machine.Machine
		l []int
		n int
	}
	faults := []fault[given]{
		{func(x *given) { x.m.Turn = 0 }, api.ErrRange},
		{func(x *given) { x.l = append([]int{99}, x.l...) }, api.ErrUnknown},
		{func(x *given) { x.m.Ring = true }, api.ErrKind},
		{func(x *given) { x.l = []int{0, 1, 2, 3, 4, 5, 6, 7, 8, 9, 10, 11, 12} }, api.ErrMany},
		{func(x *given) { x.n = 1001 }, api.ErrRange},
		{func(x *given) { x.l = []int{0, 6} }, api.ErrMeet},
	}
	good := func() given { return given{m: row(4), l: []int{0}, n: 2} }
	checkFaults(t, good, faults, func(x given) api.Errno { _, e := machine.Word(x.m, x.l, x.n); return e })
	checkFaults(t, good, faults, func(x given) api.Errno { _, e := machine.Strands(x.m, x.l, x.n); return e })
	full := make([]int, 13)
	for i := range full {
		full[i] = i
	}
	for _, n := range []int{-1, 1001, math.MinInt, math.MaxInt} {
		for _, x := range []struct {
			m machine.Machine
			l []int
			e api.Errno
		}{{row(4), []int{2, 4}, api.ErrRange}, {row(4), nil, api.ErrRange}, {row(4), full, api.ErrMany}, {ring(4), full, api.ErrKind}} {
			word, e := machine.Word(x.m, x.l, n)
			sameResult(t, word, e, []int{}, x.e, "Word", n)
			strands, e := machine.Strands(x.m, x.l, n)
			sameResult(t, strands, e, []int{}, x.e, "Strands", n)
		}
	}
}

func TestWordsOfExamples(t *testing.T) {
	for _, example := range []struct {
		m       machine.Machine
		l       []int
		n       int
		word    []int
		strands []int
	}{
		{row(2), []int{0, 4, 3}, 4, []int{-1, 2, 1}, []int{2, 1, 0}},
		{row(2), []int{0, 4, 3}, 3, []int{-1}, []int{1, 0, 2}},
		{row(2), []int{0, 4, 3}, 0, nil, []int{0, 1, 2}},
		{turned(row(2)), []int{0, 4, 1}, 4, []int{1, -2, -1}, []int{2, 1, 0}},
		{row(1), []int{0, 2}, 4, []int{-1, -1}, []int{0, 1}},
		{turned(row(1)), []int{0, 2}, 4, []int{1, 1}, []int{0, 1}},
		{row(1), []int{0, 1, 2, 3}, 1, []int{-2, -1, -3}, []int{1, 3, 0, 2}},
		{turned(row(1)), []int{0, 1, 2, 3}, 1, []int{2, 1, 3}, []int{1, 3, 0, 2}},
		{row(1), []int{3}, 1000, nil, []int{0}},
		{row(5), nil, 1000, nil, nil},
		{row(2, 1), []int{0, 3, 7, 6}, 1, []int{-1, 3}, []int{1, 0, 3, 2}},
	} {
		word, e := machine.Word(example.m, example.l, example.n)
		sameResult(t, word, e, example.word, api.OK, "Word", example)
		strands, e := machine.Strands(example.m, example.l, example.n)
		sameResult(t, strands, e, example.strands, api.OK, "Strands", example)
	}
}

func TestOrderOfExamples(t *testing.T) {
	for _, example := range []struct {
		m        machine.Machine
		l, order []int
	}{
		{row(2), []int{0, 4, 3}, []int{0, 2, 1}},
		{row(1), []int{3, 2, 1, 0}, []int{3, 2, 0, 1}},
		{turned(row(1)), []int{3, 2, 1, 0}, []int{3, 0, 2, 1}},
		{row(2), []int{5, 7, 6, 2}, []int{3, 1, 0, 2}},
		{row(2), nil, nil},
	} {
		order, e := machine.Order(example.m, example.l)
		sameResult(t, order, e, example.order, api.OK, example)
	}
}

func TestCrossingsOfExamples(t *testing.T) {
	for _, example := range []struct {
		m         machine.Machine
		l         []int
		crossings []machine.Crossing
	}{
		{row(2), []int{0, 4, 3}, []machine.Crossing{{Gear: 0, Over: 2, Under: 0}}},
		{row(1), []int{0, 1, 2, 3}, []machine.Crossing{{Over: 3, Under: 1}, {Over: 3, Under: 0}, {Over: 2, Under: 1}}},
		{turned(row(1)), []int{0, 1, 2, 3}, []machine.Crossing{{Over: 3, Under: 1}, {Over: 0, Under: 1}, {Over: 3, Under: 2}}},
		{row(1), []int{0, 2}, nil},
		{row(1), []int{0, 1}, nil},
		{row(1), []int{2, 3}, nil},
		{row(2), []int{6, 7, 1, 3}, []machine.Crossing{{Gear: 0, Over: 3, Under: 2}, {Gear: 1, Over: 1, Under: 0}}},
		{ring(2), []int{1, 3, 5, 7}, []machine.Crossing{{Gear: 0, Over: 1, Under: 0}, {Gear: 1, Over: 3, Under: 2}}},
		{row(2), nil, nil},
	} {
		crossings, e := machine.Crossings(example.m, example.l)
		sameResult(t, crossings, e, example.crossings, api.OK, example)
	}
}

func TestOrdersAndCrossingsOfMany(t *testing.T) {
	source := seeded()
	for _, m := range manyMachines() {
		for range 20 {
			l := randomLoad(source, m, source.Intn(12)) // carriers may meet later
			e, ofOrder, wantedCrossings, wantedOrder := api.OK, api.OK, crossingsIn(m, l), orderIn(m, l)
			if placeIn(m, l) >= 0 {
				e, ofOrder = api.ErrMeet, api.ErrMeet
			}
			if m.Ring {
				ofOrder = api.ErrKind
			}
			if e != api.OK {
				wantedCrossings = nil
			}
			if ofOrder != api.OK {
				wantedOrder = nil
			}
			crossings, got := machine.Crossings(m, l)
			sameResult(t, crossings, got, wantedCrossings, e, m, l)
			order, got := machine.Order(m, l)
			sameResult(t, order, got, wantedOrder, ofOrder, m, l)
		}
	}
	for _, m := range []machine.Machine{row(16), ring(16, 2), turned(row(16, 5, 6))} { // there may be more than 12 carriers
		l := slices.DeleteFunc(randomLoad(source, m, 64), func(slot int) bool { return slot%4 == right })[:13+source.Intn(36)]
		crossings, e := machine.Crossings(m, l)
		sameResult(t, crossings, e, crossingsIn(m, l), api.OK, m, l)
		if !m.Ring {
			order, e := machine.Order(m, l)
			sameResult(t, order, e, orderIn(m, l), api.OK, m, l)
		}
	}
}

func TestWordsOfMany(t *testing.T) {
	source := seeded()
	counts := map[api.Errno]int{}
	for i := range 1500 {
		m := randomRow(source, 16)
		l := randomLoad(source, m, source.Intn(4))
		if i%2 == 0 {
			l = acceptedLoad(source, m, 12)
		}
		n := []int{source.Intn(10), source.Intn(60), source.Intn(1001), 1000}[source.Intn(4)]
		wantedWord, wantedStrands, e, ofWord := wordIn(m, l, n), strandsIn(m, l, n), api.OK, api.OK
		if _, _, meets := meetIn(m, l, n); meets == api.OK {
			wantedWord, wantedStrands, e, ofWord = nil, nil, api.ErrMeet, api.ErrMeet
		} else if len(wantedWord) > api.MaxWord {
			wantedWord, ofWord = nil, api.ErrLong
		}
		word, got := machine.Word(m, l, n)
		sameResult(t, word, got, wantedWord, ofWord, m, l, n)
		strands, got := machine.Strands(m, l, n)
		sameResult(t, strands, got, wantedStrands, e, m, l, n)
		counts[ofWord]++
	}
	for _, e := range []api.Errno{api.OK, api.ErrMeet, api.ErrLong} {
		same(t, counts[e] > 50, true, "few words with the result", e, counts)
	}
}

// A twist of two carriers has a letter for every two steps.
func TestWordsAtTheLimit(t *testing.T) {
	word, e := machine.Word(row(1), []int{1, 3}, 400)
	same(t, []any{len(word), e}, []any{200, api.OK})
	word, e = machine.Word(row(1), []int{1, 3}, 401)
	sameResult(t, word, e, []int{}, api.ErrLong)
	strands, e := machine.Strands(row(1), []int{1, 3}, 401)
	sameResult(t, strands, e, []int{1, 0}, api.OK)
	word, e = machine.Word(row(1), []int{0}, 1000)
	sameResult(t, word, e, []int{}, api.OK)
	twelve := []int{0, 1, 2, 3, 8, 9, 10, 11, 16, 17, 18, 19}
	m := row(5, 1, 2, 3, 4)
	strands, e = machine.Strands(m, twelve, 1000)
	sameResult(t, strands, e, []int{0, 1, 2, 3, 4, 5, 6, 7, 8, 9, 10, 11}, api.OK)
	word, e = machine.Word(m, twelve, 1)
	sameResult(t, word, e, []int{-2, -1, -3, -6, -5, -7, -10, -9, -11}, api.OK)
}

// A meeting comes before a word that is too long, even if it comes later; one after the steps does not count.
func TestMeetingsOfWords(t *testing.T) {
	m := row(13, 1, 2, 3, 4, 8) // twice a full gear and an empty one, then 4 gears, and 5 gears
	latest, at := 0, 0
	for slot := 16; slot < 32; slot++ {
		if steps, _, _ := machine.Meet(m, []int{0, 1, 2, 3, 8, 9, 10, 11, slot, 32}); steps > latest {
			latest, at = steps, slot
		}
	}
	l := []int{0, 1, 2, 3, 8, 9, 10, 11, at, 32}
	same(t, 6*latest > 300, true, latest) // so many letters come from the full gears
	_, e := machine.Word(m, l, latest-1)
	same(t, e, api.ErrLong)
	_, e = machine.Strands(m, l, latest-1)
	same(t, e, api.OK)
	for _, n := range []int{latest, latest + 1, 1000} {
		_, e = machine.Word(m, l, n)
		same(t, e, api.ErrMeet, n)
		_, e = machine.Strands(m, l, n)
		same(t, e, api.ErrMeet, n)
	}
	_, e = machine.Word(row(2), []int{1, 5}, 0)
	same(t, e, api.OK)
	_, e = machine.Word(row(2), []int{1, 5}, 1)
	same(t, e, api.ErrMeet)
}
