package record_test

import (
	"fmt"
	"math"
	"math/rand"
	"reflect"
	"slices"
	"strconv"
	"strings"
	"testing"

	"becket/api"
	"becket/record"
)

// The tests use the exported functions of the package alone, and compare with a plain model.

// same fails the test if a result is not the wanted one; nil and empty slices are equivalent.
func same(t *testing.T, got, wanted any, what ...any) {
	t.Helper()
	if !alike(reflect.ValueOf(got), reflect.ValueOf(wanted)) {
		t.Errorf("%s: got %s, want %s", shortened(what), shortened(got), shortened(wanted))
	}
}

func alike(a, b reflect.Value) bool {
	if a.Kind() == reflect.Interface && b.Kind() == reflect.Interface {
		a, b = a.Elem(), b.Elem()
	}
	if !a.IsValid() || !b.IsValid() || a.Type() != b.Type() {
		return false
	}
	switch a.Kind() {
	case reflect.Slice:
		if a.Len() != b.Len() {
			return false
		}
		for i := range a.Len() {
			if !alike(a.Index(i), b.Index(i)) {
				return false
			}
		}
		return true
	case reflect.Struct:
		for i := range a.NumField() {
			if !alike(a.Field(i), b.Field(i)) {
				return false
			}
		}
		return true
	}
	return a.Equal(b)
}

// shortened keeps long texts out of messages.
func shortened(value any) string {
	text := fmt.Sprintf("%+v", value)
	return text[:min(len(text), 500)]
}

// sameResult fails the test if a result and its error are not the wanted ones.
func sameResult(t *testing.T, got any, e api.Errno, wanted any, code api.Errno, what ...any) {
	t.Helper()
	same(t, e, code, what...)
	same(t, got, wanted, what...)
}

// seeded returns a source of numbers that is the same in each run.
func seeded() *rand.Rand {
	return rand.New(rand.NewSource(39373))
}

func pick[T any](source *rand.Rand, list []T) T {
	return list[source.Intn(len(list))]
}

// badNames returns texts that are no names.
func badNames() []string {
	return []string{"", "1", "_a", "a b", "a-b", "a;", "é", "\xff", "a\n", strings.Repeat("a", 25)}
}

// badInts returns integers that are in no range from below 10 up to at most a number.
func badInts(most int) []int {
	return []int{-1, most + 1, math.MinInt, math.MaxInt, -most}
}

// fault makes something wrong, so that the error has to be returned.
type fault[T any] struct {
	make func(x *T)
	e    api.Errno
}

// checkFaults fails the test for each fault, in the order of their errors, that does not decide alone, or together with
// one that comes after it.
func checkFaults[T any](t *testing.T, good func() T, faults []fault[T], check func(x T) api.Errno) {
	t.Helper()
	same(t, check(good()), api.OK, "without a fault")
	for i, first := range faults {
		for k, later := range faults[i:] {
			x := good()
			later.make(&x)
			first.make(&x) // the last one, for it may overwrite what the later one made
			same(t, check(x), first.e, "fault", i, "before", i+k)
		}
	}
}

// event returns the event of a body, which is read word by word.
func event(body string) api.Event {
	words := strings.Fields(body)
	number, _ := strconv.Atoi(words[0])
	e := api.Event{Number: number, Kind: words[1]}
	for _, word := range words[2:] {
		if value, err := strconv.Atoi(word); err == nil {
			e.Values = append(e.Values, value)
		} else {
			e.Names = append(e.Names, word)
		}
	}
	return e
}

// events returns the events of lines without their Numbers, numbered from 1 on.
func events(lines ...string) []api.Event {
	var l []api.Event
	for i, line := range lines {
		l = append(l, event(strconv.Itoa(i+1)+" "+line))
	}
	return l
}

// with returns a list of its own with more elements behind those of a list.
func with[T any](list []T, more ...T) []T {
	return slices.Concat(list, more)
}

// after returns a list of its own with some events and those of more lines.
func after(l []api.Event, lines ...string) []api.Event {
	for _, line := range lines {
		l = with(l, next(l, line))
	}
	return l
}

// next returns the event of a line with the Number that follows some events.
func next(l []api.Event, line string) api.Event {
	return event(strconv.Itoa(len(l)+1) + " " + line)
}

// chapterEvents returns the events of the chapter's first example.
func chapterEvents() []api.Event {
	return events("make a b 10 100 2", "test a 10 401", "use a 11 200")
}

// chapterNotes returns the notes of the chapter's fourth example.
func chapterNotes() []record.Note {
	return []record.Note{note("x", 1, 1, "make a b 10 100 2"), note("x", 2, 3, "use a 11 200"), note("y", 1, 2, "test a 10 401")}
}

func note(desk string, number, clock int, line string) record.Note {
	return record.Note{Desk: desk, Number: number, Clock: clock, Line: line}
}

// manySlings returns the events that make so many slings of a batch, which are named from s100 on.
func manySlings(count int) []api.Event {
	var lines []string
	for i := range count {
		lines = append(lines, "make s"+strconv.Itoa(100+i)+" b 0 9999 9999")
	}
	return events(lines...)
}

// fullEvents returns as many events as there may be.
func fullEvents() []api.Event {
	return events(append([]string{"make a b 10 100 2"}, slices.Repeat([]string{"test a 10 401"}, api.MaxEvents-1)...)...)
}

// manyNotes returns so many notes of one desk, with clocks from one on.
func manyNotes(desk string, count, clock int) []record.Note {
	var l []record.Note
	for i := range count {
		l = append(l, note(desk, i+1, clock+i, "fail a 1"))
	}
	return l
}

// deepCopy returns a copy of events that shares no memory with them, with room behind the last elements of lists.
func deepCopy(l []api.Event) []api.Event {
	l = withRoom(l)
	for i, e := range l {
		l[i].Names, l[i].Values = withRoom(e.Names), withRoom(e.Values)
	}
	return l
}

func withRoom[T any](list []T) []T {
	return append(make([]T, 0, len(list)+9), list...)
}

// texts returns the names of some of the slings of a register.
func texts(slings []record.Sling, some func(s record.Sling) bool) []string {
	var names []string
	for _, s := range slings {
		if some(s) {
			names = append(names, s.Name)
		}
	}
	return names
}
