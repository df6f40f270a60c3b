package record_test

import (
	"fmt"
	"math"
	"slices"
	"strings"
	"testing"

	"becket/api"
	"becket/record"
)

// The tests of P10.3.

// linesOfNotes returns lines that have the form of an event's body without its Number, and badLines such as have not.
func linesOfNotes() []string {
	return []string{
		"make a b 0 0 0", "make 1 - 999999999 999999999 999999999", "test a 0 0", "use a 0 999999999", "fail a 0", "recall b 0", "fail a;b\n 7", "fail \xff\x00 7", "fail é\t 7",
		"fail " + strings.Repeat("a", 5000) + " 1", "use 5 5 5",
	}
}

func badLines() []string {
	return []string{
		"", " ", "undo", "undo ", "undo x", "make", "make ", "make a b 0 0", "make a b 0 0 0 0", "make a 0 0 0", "make a b c 0 0 0", "makes a b 0 0 0", "Make a b 0 0 0", "1 make a b 0 0 0",
		"make a b 0 0 0 ", " make a b 0 0 0", "make  b 0 0 0", "make a  0 0 0", "make a b  0 0", "make a b 0 0 ", "make\ta b 0 0 0", "make a b 0 0 0\n", "make a b 00 0 0", "make a b 0 01 0",
		"make a b 0 0 -1", "make a b 0 0 -0", "make a b 0 0 +1", "make a b 0 0 1000000000", "make a b x 0 0", "make a b 0 0 1.0", "make a b 0 0 1_0", "test a 0", "test 0 0", "test a 0 0 0", "test a b 0",
		"use a 0", "use a 0 ٣", "fail a", "fail 0", "fail a 0 0", "fail a  0", "fail a b", "fail a 000000001", "recall b", "recall", "recall b x", "recall b 0x1", "sling a", "slings", "due 1", "note",
		"fail a " + strings.Repeat("9", 5000), strings.Repeat(" ", 5000),
	}
}

// notesWithLines returns the notes of the chapter, with other lines.
func notesWithLines(line string) []record.Note {
	l := chapterNotes()
	for i := range l {
		l[i].Line = line
	}
	return l
}

func TestLinesOfNotes(t *testing.T) {
	for _, line := range linesOfNotes() {
		same(t, record.CheckNotes(notesWithLines(line)), api.OK, line)
	}
	for _, line := range badLines() {
		same(t, record.CheckNotes(notesWithLines(line)), api.ErrSyntax, line)
	}
}

// noteFaults returns the faults of the second note of two, in the order of their errors.
func noteFaults() []fault[[]record.Note] {
	var faults []fault[[]record.Note]
	add := func(e api.Errno, change func(x *record.Note)) {
		faults = append(faults, fault[[]record.Note]{func(l *[]record.Note) { change(&(*l)[1]) }, e})
	}
	for _, name := range badNames() {
		add(api.ErrName, func(x *record.Note) { x.Desk = name })
	}
	for _, number := range append(badInts(1000), 0) {
		add(api.ErrRange, func(x *record.Note) { x.Number = number })
	}
	for _, clock := range append(badInts(1000000), 0) {
		add(api.ErrRange, func(x *record.Note) { x.Clock = clock })
	}
	for _, line := range []string{"", "undo", "fail a", "fail a -1"} {
		add(api.ErrSyntax, func(x *record.Note) { x.Line = line })
	}
	for _, desk := range []string{"w", "W", "X", "K9"} {
		add(api.ErrOrder, func(x *record.Note) { x.Desk = desk })
	}
	for _, number := range []int{2, 1} {
		add(api.ErrOrder, func(x *record.Note) { x.Desk, x.Number = "x", number })
	}
	for _, clock := range []int{5, 4, 1} {
		add(api.ErrOrder, func(x *record.Note) { x.Desk, x.Clock = "x", clock })
	}
	return faults
}

// checkedByAll returns the error of notes, if all functions return the same one; beside it they return nothing.
func checkedByAll(t *testing.T, l []record.Note) api.Errno {
	t.Helper()
	e := record.CheckNotes(l)
	if e == api.OK {
		return e
	}
	for _, pair := range [][2][]record.Note{{l, nil}, {nil, l}, {l, make([]record.Note, 1001)}, {chapterNotes(), l}} {
		gathered, code := record.Gather(pair[0], pair[1])
		sameResult(t, gathered, code, []record.Note{}, e, "Gather")
	}
	v, code := record.Vector(l)
	sameResult(t, v, code, []record.Mark{}, e, "Vector")
	lacking, code := record.Lacking(l, []record.Mark{{}})
	sameResult(t, lacking, code, []record.Note{}, e, "Lacking")
	folded, aside, code := record.Fold(l)
	sameResult(t, []any{folded, aside}, code, []any{[]api.Event{}, []record.Mark{}}, e, "Fold")
	return e
}

func TestErrorsOfNotes(t *testing.T) {
	good := func() []record.Note { return []record.Note{note("x", 2, 5, "fail a 1"), note("x", 3, 6, "fail a 1")} }
	checkFaults(t, good, noteFaults(), func(l []record.Note) api.Errno { return checkedByAll(t, l) })
	for _, l := range [][]record.Note{
		nil, chapterNotes(), manyNotes("x", 1000, 999001), {note("x", 1000, 1000000, "fail a 1")}, {note("X", 2, 9, "fail a 1"), note("x", 1, 1, "fail a 1"), note("x1", 1, 1, "fail a 1"), note("x_", 1, 1, "fail a 1")},
	} {
		same(t, record.CheckNotes(l), api.OK, l)
	}
	for _, example := range []struct {
		l []record.Note
		e api.Errno
	}{
		{make([]record.Note, 1), api.ErrName}, {make([]record.Note, 1000), api.ErrName}, {make([]record.Note, 1001), api.ErrMany}, {with(manyNotes("x", 1000, 1), note("y", 1, 1, "fail a 1")), api.ErrMany},
		{[]record.Note{note("x", 1, 1, "undo"), {}}, api.ErrSyntax}, {[]record.Note{note("x", 2, 2, "fail a 1"), note("x", 1, 3, "fail a 1"), {}}, api.ErrOrder},
		{[]record.Note{note("y", 1, 2, "fail a 1"), note("x", 2, 3, "fail a 1"), {}}, api.ErrOrder},
	} {
		same(t, checkedByAll(t, example.l), example.e, example.l)
	}
}

func TestGather(t *testing.T) {
	all := chapterNotes()
	for _, example := range []struct{ a, b, wanted []record.Note }{
		{nil, nil, nil}, {all, nil, all}, {all, all, all}, {all[:1], all[1:], all}, {all[1:], all[:2], all}, {all[2:], all[:1], []record.Note{all[0], all[2]}},
		{manyNotes("x", 600, 1), manyNotes("x", 1000, 1), manyNotes("x", 1000, 1)}, {manyNotes("x", 1000, 1)[500:], manyNotes("x", 1000, 1)[:500], manyNotes("x", 1000, 1)},
		{[]record.Note{note("x", 10, 20, "fail a 1")}, []record.Note{note("x", 9, 19, "fail a 1")}, []record.Note{note("x", 9, 19, "fail a 1"), note("x", 10, 20, "fail a 1")}},
		{[]record.Note{note("a", 1, 9, "fail a 1")}, []record.Note{note("B", 2, 9, "fail a 1")}, []record.Note{note("B", 2, 9, "fail a 1"), note("a", 1, 9, "fail a 1")}},
	} {
		for _, pair := range [][2][]record.Note{{example.a, example.b}, {example.b, example.a}} {
			gathered, e := record.Gather(pair[0], pair[1])
			sameResult(t, gathered, e, example.wanted, api.OK, pair)
		}
	}
}

func TestNotesThatCannotBeGathered(t *testing.T) {
	line, other := "fail a 1", "fail a 2"
	for i, example := range []struct {
		a, b []record.Note
		e    api.Errno
	}{
		{[]record.Note{note("x", 1, 1, line)}, []record.Note{note("x", 1, 1, other)}, api.ErrConflict}, {[]record.Note{note("x", 1, 1, line)}, []record.Note{note("x", 1, 2, line)}, api.ErrConflict},
		{[]record.Note{note("x", 1, 5, line)}, []record.Note{note("x", 2, 5, line)}, api.ErrConflict}, {[]record.Note{note("x", 1, 5, line)}, []record.Note{note("x", 2, 4, line)}, api.ErrConflict},
		{[]record.Note{note("x", 1, 1, line), note("x", 3, 3, line)}, []record.Note{note("x", 2, 3, line)}, api.ErrConflict}, {[]record.Note{note("x", 1, 2, line), note("x", 3, 3, line)}, []record.Note{note("x", 2, 1, line)}, api.ErrConflict},
		{manyNotes("x", 1000, 1), []record.Note{note("y", 1, 1, line)}, api.ErrMany}, {manyNotes("x", 1000, 1), manyNotes("y", 1000, 1), api.ErrMany}, {manyNotes("x", 600, 1), manyNotes("y", 401, 1), api.ErrMany},
		{manyNotes("x", 600, 1), manyNotes("y", 400, 1), api.OK},
		{manyNotes("x", 1000, 1), []record.Note{note("x", 7, 7, other), note("y", 1, 1, line)}, api.ErrConflict},                      // a different note comes before too many
		{manyNotes("x", 999, 5)[1:], []record.Note{note("x", 1, 9, line), note("y", 1, 1, line), note("z", 1, 1, line)}, api.ErrMany}, // and clocks after too many
		{manyNotes("x", 999, 5)[1:], []record.Note{note("x", 1, 9, line), note("y", 1, 1, line)}, api.ErrConflict},
	} {
		for _, pair := range [][2][]record.Note{{example.a, example.b}, {example.b, example.a}} {
			gathered, e := record.Gather(pair[0], pair[1])
			same(t, e, example.e, i)
			if e != api.OK {
				same(t, len(gathered), 0, i)
			}
		}
	}
}

func TestVector(t *testing.T) {
	at := func(desk string, numbers ...int) []record.Note {
		var l []record.Note
		for _, number := range numbers {
			l = append(l, note(desk, number, number, "fail a 1"))
		}
		return l
	}
	for _, example := range []struct {
		l []record.Note
		v []record.Mark
	}{
		{nil, nil}, {chapterNotes(), []record.Mark{{Desk: "x", Number: 2}, {Desk: "y", Number: 1}}}, {at("x", 1, 3), []record.Mark{{Desk: "x", Number: 1}}}, {at("x", 2, 3), []record.Mark{{Desk: "x"}}},
		{at("x", 1, 2, 4, 5), []record.Mark{{Desk: "x", Number: 2}}}, {at("x", 1000), []record.Mark{{Desk: "x"}}}, {manyNotes("x", 1000, 1), []record.Mark{{Desk: "x", Number: 1000}}},
		{slices.Concat(at("W", 1, 2), at("x", 3), at("x1", 1, 2, 3), at("y", 1)), []record.Mark{{Desk: "W", Number: 2}, {Desk: "x"}, {Desk: "x1", Number: 3}, {Desk: "y", Number: 1}}},
		{slices.Concat(at("x", 1), at("y", 2)), []record.Mark{{Desk: "x", Number: 1}, {Desk: "y"}}}, {slices.Concat(at("x", 1, 3), at("y", 2, 4)), []record.Mark{{Desk: "x", Number: 1}, {Desk: "y"}}},
	} {
		v, e := record.Vector(example.l)
		sameResult(t, v, e, example.v, api.OK, example.l)
	}
}

func TestLacking(t *testing.T) {
	l := chapterNotes()
	for _, example := range []struct {
		v       []record.Mark
		lacking []record.Note
	}{
		{nil, l}, {[]record.Mark{{Desk: "x"}, {Desk: "y"}}, l}, {[]record.Mark{{Desk: "x", Number: 1}}, l[1:]}, {[]record.Mark{{Desk: "x", Number: 2}}, l[2:]}, {[]record.Mark{{Desk: "x", Number: 1000}}, l[2:]},
		{[]record.Mark{{Desk: "y", Number: 1}}, l[:2]}, {[]record.Mark{{Desk: "x", Number: 2}, {Desk: "y", Number: 1}}, nil}, {[]record.Mark{{Desk: "X", Number: 5}, {Desk: "w", Number: 5}, {Desk: "z", Number: 5}}, l},
	} {
		lacking, e := record.Lacking(l, example.v)
		sameResult(t, lacking, e, example.lacking, api.OK, example.v)
		lacking, e = record.Lacking(nil, example.v)
		sameResult(t, lacking, e, []record.Note{}, api.OK, example.v)
	}
	gap := []record.Note{note("x", 1, 1, "fail a 1"), note("x", 3, 2, "fail a 1")}
	lacking, e := record.Lacking(gap, []record.Mark{{Desk: "x", Number: 2}})
	sameResult(t, lacking, e, gap[1:], api.OK)
}

func TestErrorsOfVectors(t *testing.T) {
	var faults []fault[[]record.Mark]
	add := func(e api.Errno, change func(x *record.Mark)) {
		faults = append(faults, fault[[]record.Mark]{func(v *[]record.Mark) { change(&(*v)[1]) }, e})
	}
	for _, name := range badNames() {
		add(api.ErrName, func(x *record.Mark) { x.Desk = name })
	}
	for _, number := range badInts(1000) {
		add(api.ErrRange, func(x *record.Mark) { x.Number = number })
	}
	for _, desk := range []string{"x", "X", "w9"} {
		add(api.ErrOrder, func(x *record.Mark) { x.Desk = desk })
	}
	good := func() []record.Mark { return []record.Mark{{Desk: "x", Number: 1000}, {Desk: "y", Number: 0}} }
	checkFaults(t, good, faults, func(v []record.Mark) api.Errno {
		_, e := record.Lacking(chapterNotes(), v)
		return e
	})
	many := make([]record.Mark, 1001)
	for i := range many {
		many[i] = record.Mark{Desk: fmt.Sprintf("x%04d", i), Number: 1}
	}
	for _, example := range []struct {
		v []record.Mark
		e api.Errno
	}{
		{many, api.ErrMany}, {make([]record.Mark, 1001), api.ErrMany}, {make([]record.Mark, 1000), api.ErrName}, {[]record.Mark{{Desk: "y"}, {Desk: "x", Number: 1}, {}}, api.ErrOrder},
		{[]record.Mark{{Desk: "y", Number: math.MinInt}, {}}, api.ErrRange},
	} {
		lacking, e := record.Lacking(chapterNotes(), example.v)
		sameResult(t, lacking, e, []record.Note{}, example.e)
	}
	lacking, e := record.Lacking(chapterNotes(), many[:1000])
	sameResult(t, lacking, e, chapterNotes(), api.OK)
}

func TestFold(t *testing.T) {
	l := chapterNotes()
	for _, example := range []struct {
		l     []record.Note
		lines []string
		aside []record.Mark
	}{
		{nil, nil, nil}, {l, []string{"make a b 10 100 2", "test a 10 401", "use a 11 200"}, nil},
		{l[:2], []string{"make a b 10 100 2"}, []record.Mark{{Desk: "x", Number: 2}}}, {l[1:], nil, []record.Mark{{Desk: "y", Number: 1}, {Desk: "x", Number: 2}}},
		// Those of one clock by their desks, and what is set aside in the order of the clocks.
		{[]record.Note{note("X", 4, 7, "make a X 1 5 5"), note("x", 3, 7, "make a x 1 5 5"), note("y", 2, 7, "make a y 1 5 5")}, []string{"make a X 1 5 5"}, []record.Mark{{Desk: "x", Number: 3}, {Desk: "y", Number: 2}}},
		{[]record.Note{note("X", 4, 8, "make a X 1 5 5"), note("x", 3, 7, "make a x 1 5 5"), note("y", 2, 6, "make a y 1 5 5")}, []string{"make a y 1 5 5"}, []record.Mark{{Desk: "x", Number: 3}, {Desk: "X", Number: 4}}},
		// Days that come too late, and lines whose events have errors of their own.
		{[]record.Note{note("x", 1, 1, "make a b 5 9 9"), note("x", 2, 2, "make c b 4 9 9"), note("x", 3, 3, "make d b 6 9 9")}, []string{"make a b 5 9 9", "make d b 6 9 9"}, []record.Mark{{Desk: "x", Number: 2}}},
		{[]record.Note{note("x", 1, 1, "make 1 b 5 9 9"), note("x", 2, 2, "make a - 5 9 9"), note("x", 3, 3, "make a b 5 9 9"), note("x", 5, 4, "fail 1 5")}, []string{"make a b 5 9 9"}, []record.Mark{{Desk: "x", Number: 1}, {Desk: "x", Number: 2}, {Desk: "x", Number: 5}}},
		// Clocks are compared as numbers.
		{[]record.Note{note("x", 1, 9, "make a b 5 9 9"), note("y", 1, 10, "fail a 5"), note("z", 1, 1000000, "make c b 5 9 9")}, []string{"make a b 5 9 9", "fail a 5", "make c b 5 9 9"}, nil},
	} {
		folded, aside, e := record.Fold(example.l)
		sameResult(t, []any{folded, aside}, e, []any{events(example.lines...), example.aside}, api.OK, example.l)
	}
	many := manyNotes("x", 1000, 1)
	many[0].Line = "make a b 1 99 99"
	for i := range many[1:] {
		many[i+1].Line = "test a 1 50"
	}
	folded, aside, e := record.Fold(many)
	sameResult(t, []any{len(folded), folded[999].Number, len(aside)}, e, []any{1000, 1000, 0}, api.OK)
}

// vectorOf returns the vector of notes, as the model has it.
func vectorOf(l []record.Note) []record.Mark {
	there := map[record.Mark]bool{}
	for _, x := range l {
		there[record.Mark{Desk: x.Desk, Number: x.Number}] = true
	}
	var v []record.Mark
	for i, x := range l {
		mark := record.Mark{Desk: x.Desk}
		for there[record.Mark{Desk: x.Desk, Number: mark.Number + 1}] {
			mark.Number++
		}
		if i == 0 || l[i-1].Desk != x.Desk {
			v = append(v, mark)
		}
	}
	return v
}

func TestRandomNotes(t *testing.T) {
	source := seeded()
	accepted, setAside := 0, 0
	for range 400 {
		all := randomNotes(source, 50)
		mine, theirs := someOf(source, all), someOf(source, all)
		var union, lacking []record.Note
		for _, x := range all {
			if slices.Contains(mine, x) || slices.Contains(theirs, x) {
				union = append(union, x)
			}
		}
		gathered, e := record.Gather(mine, theirs)
		sameResult(t, gathered, e, union, api.OK, mine, theirs)
		v, e := record.Vector(mine)
		sameResult(t, v, e, vectorOf(mine), api.OK, mine)
		for _, x := range theirs {
			if !slices.ContainsFunc(v, func(m record.Mark) bool { return m.Desk == x.Desk && m.Number >= x.Number }) {
				lacking = append(lacking, x)
			}
		}
		got, e := record.Lacking(theirs, v)
		sameResult(t, got, e, lacking, api.OK, theirs, v)
		folded, aside, e := record.Fold(union)
		wanted, wantedAside := foldOf(union)
		sameResult(t, []any{folded, aside}, e, []any{wanted, wantedAside}, api.OK, union)
		accepted, setAside = accepted+len(folded), setAside+len(aside)
	}
	same(t, accepted > 1000 && setAside > 1000, true, accepted, setAside)
}
