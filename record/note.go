package record

import (
	"cmp"
	"slices"
	"strings"

	"becket/api"
	"becket/check"
	"becket/lists"
)

// Note is a line that a desk has written: the body of an event without its Number.
type Note struct {
	Desk   string
	Number int
	Clock  int
	Line   string
}

// Mark is a desk and the number of a note.
type Mark struct {
	Desk   string
	Number int
}

// CheckNotes returns the first error of notes, or OK.
func CheckNotes(l []Note) api.Errno {
	return check.First(check.That(len(l) <= api.MaxEvents, api.ErrMany), check.Ascending(l, checkNote, ascends))
}

// Gather returns the notes of both lists.
func Gather(a, b []Note) ([]Note, api.Errno) {
	if e := check.First(CheckNotes(a), CheckNotes(b)); e != api.OK {
		return nil, e
	}
	gathered := slices.Concat(a, b)
	slices.SortFunc(gathered, func(a, b Note) int { return compareMarks(markOf(a), markOf(b)) })
	gathered = slices.Compact(gathered)
	e := check.First(
		checkNeighbours(gathered, func(before, next Note) bool { return markOf(before) != markOf(next) }),
		check.That(len(gathered) <= api.MaxEvents, api.ErrMany),
		checkNeighbours(gathered, ascends),
	)
	if e != api.OK {
		return nil, e
	}
	return gathered, api.OK
}

// Vector returns the vector of notes.
func Vector(l []Note) ([]Mark, api.Errno) {
	if e := CheckNotes(l); e != api.OK {
		return nil, e
	}
	var v []Mark
	for i, note := range l {
		if i == 0 || note.Desk != l[i-1].Desk {
			v = append(v, lastWithoutGap(note.Desk, l[i:]))
		}
	}
	return v, api.OK
}

// Lacking returns the notes that are lacking to someone with a vector.
func Lacking(l []Note, v []Mark) ([]Note, api.Errno) {
	if e := check.First(CheckNotes(l), checkVector(v)); e != api.OK {
		return nil, e
	}
	has := map[string]int{} // 0, which is below all numbers of notes, for a desk that is not in the vector
	for _, mark := range v {
		has[mark.Desk] = mark.Number
	}
	return lists.Filter(l, func(note Note) bool { return note.Number > has[note.Desk] }), api.OK
}

// Fold returns the events of the fold of notes, and what is set aside.
func Fold(l []Note) ([]api.Event, []Mark, api.Errno) {
	if e := CheckNotes(l); e != api.OK {
		return nil, nil, e
	}
	inTime := slices.Clone(l)
	slices.SortFunc(inTime, func(a, b Note) int {
		return cmp.Or(cmp.Compare(a.Clock, b.Clock), strings.Compare(a.Desk, b.Desk))
	})
	var h history
	var aside []Mark
	for _, note := range inTime {
		e, _ := readEvent(note.Line)
		e.Number = h.nextNumber()
		if h.add(e) != api.OK {
			aside = append(aside, markOf(note))
		}
	}
	return h.events, aside, api.OK
}

func checkNote(note Note) api.Errno {
	e, readable := readEvent(note.Line)
	return check.First(
		check.Name(note.Desk),
		check.Range(note.Number, 1, api.MaxEvents),
		check.Range(note.Clock, 1, MaxClock),
		check.That(readable && e.Kind != kindOfUndoing, api.ErrSyntax),
	)
}

// ascends tells whether a note may follow another one: it is one of a later desk, or a later one of the same desk.
func ascends(before, next Note) bool {
	later := next.Number > before.Number && next.Clock > before.Clock
	return next.Desk > before.Desk || next.Desk == before.Desk && later
}

// checkNeighbours returns the error of gathered notes of which one does not agree with the next one.
func checkNeighbours(gathered []Note, agree func(before, next Note) bool) api.Errno {
	for i := 1; i < len(gathered); i++ {
		if !agree(gathered[i-1], gathered[i]) {
			return api.ErrConflict
		}
	}
	return api.OK
}

// checkVector returns the first error of a vector.
func checkVector(v []Mark) api.Errno {
	return check.First(
		check.That(len(v) <= api.MaxEvents, api.ErrMany),
		check.Ascending(v,
			func(m Mark) api.Errno {
				return check.First(check.Name(m.Desk), check.Range(m.Number, 0, api.MaxEvents))
			},
			func(before, next Mark) bool { return next.Desk > before.Desk },
		),
	)
}

// lastWithoutGap returns a desk with the greatest number for which all its notes from 1 on are there; the notes begin with its own.
func lastWithoutGap(desk string, l []Note) Mark {
	last := Mark{Desk: desk}
search:
	for _, note := range l {
		next := Mark{Desk: desk, Number: last.Number + 1}
		switch markOf(note) {
		case next:
			last = next
		default:
			break search
		}
	}
	return last
}

func markOf(note Note) Mark {
	return Mark{Desk: note.Desk, Number: note.Number}
}

func compareMarks(a, b Mark) int {
	return cmp.Or(strings.Compare(a.Desk, b.Desk), cmp.Compare(a.Number, b.Number))
}
