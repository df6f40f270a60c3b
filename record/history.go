package record

import (
	"slices"
	"strings"

	"becket/api"
	"becket/check"
	"becket/lists"
)

// history is what has been accepted: all events, those of them that count, and the register after these.
type history struct {
	events   []api.Event
	counting []api.Event
	register Register
}

// Replay returns the register after some events, or the place of the first one with an error.
func Replay(l []api.Event) (Register, int, api.Errno) {
	h, place, e := historyOf(l)
	return h.register, place, e
}

// Accepts returns the error with which an event is not accepted after others, or OK.
func Accepts(l []api.Event, e api.Event) api.Errno {
	h, _, code := historyOf(l)
	code = check.First(code, CheckEvent(e), check.That(len(l) < api.MaxEvents, api.ErrMany))
	if code != api.OK {
		return code
	}
	return h.refusal(e)
}

// historyOf returns the history of some events; or an empty one, the place of the first event with an error, and this error.
func historyOf(l []api.Event) (history, int, api.Errno) {
	if len(l) > api.MaxEvents {
		return history{}, 0, api.ErrMany
	}
	var h history
	for i, e := range l {
		if code := h.add(e); code != api.OK {
			return history{}, i + 1, code
		}
	}
	return h, 0, api.OK
}

// add adds an event, or returns its error and changes nothing.
func (h *history) add(e api.Event) api.Errno {
	if code := CheckEvent(e); code != api.OK {
		return code
	}
	if code := h.refusal(e); code != api.OK {
		return code
	}
	h.events = append(h.events, e)
	if e.Kind == kindOfUndoing {
		h.counting = h.counting[:len(h.counting)-1]
		h.register = registerAfter(h.counting)
		return api.OK
	}
	h.counting = append(h.counting, e)
	h.register = h.register.after(e)
	return api.OK
}

// refusal returns the error with which an event without one of its own is not accepted.
func (h *history) refusal(e api.Event) api.Errno {
	if e.Number != h.nextNumber() {
		return api.ErrOrder
	}
	if e.Kind == kindOfUndoing {
		return check.That(len(h.counting) > 0, api.ErrEmpty)
	}
	k, slings := kinds()[e.Kind], h.register.Slings
	about := lists.Filter(slings, func(s Sling) bool { return k.isAbout(s, e) })
	return check.First(
		check.That(dayOf(e) <= api.MaxDay, api.ErrRange),
		check.That(dayOf(e) >= h.register.Day, api.ErrState),
		k.refusal(slings, about, e),
	)
}

func (h *history) nextNumber() int {
	return len(h.events) + 1
}

// eventsAbout returns the events that count and are about a sling of the register. Its batch may have been recalled before
// it was made; that was not about it.
func (h *history) eventsAbout(s Sling) []api.Event {
	isAbout := func(e api.Event) bool { return kinds()[e.Kind].isAbout(s, e) }
	making := slices.IndexFunc(h.counting, func(e api.Event) bool { return e.Kind == kindOfMaking && isAbout(e) })
	return lists.Filter(h.counting[making:], isAbout)
}

// registerAfter returns the register after events that are accepted and count.
func registerAfter(counting []api.Event) Register {
	var r Register
	for _, e := range counting {
		r = r.after(e)
	}
	return r
}

// after returns the register after an event that is accepted and counts.
func (r Register) after(e api.Event) Register {
	k, slings := kinds()[e.Kind], r.Slings
	if e.Kind == kindOfMaking { // the event is about a sling that is not there yet
		slings = lists.Put(slings, Sling{Name: e.Names[0]}, func(a, b Sling) int { return strings.Compare(a.Name, b.Name) })
	}
	return Register{Day: dayOf(e), Slings: changed(
		slings,
		func(s Sling) bool { return k.isAbout(s, e) },
		func(s Sling) Sling { return k.become(s, e) },
	)}
}

// changed returns a copy of a list in which some elements have become others.
func changed[T any](list []T, isOne func(T) bool, become func(T) T) []T {
	result := make([]T, len(list))
	copy(result, list)
	for i, element := range result {
		if isOne(element) {
			result[i] = become(element)
		}
	}
	return result
}
