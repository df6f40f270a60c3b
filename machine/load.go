package machine

import (
	"math"
	"slices"

	"becket/api"
	"becket/check"
	"becket/number"
)

// nobody is in a slot without a carrier.
const nobody = -1

// CheckLoad returns the first error of the slots of carriers.
func CheckLoad(m Machine, l []int) api.Errno {
	if e := CheckMachine(m); e != api.OK {
		return e
	}
	if len(l) > sides*m.Gears {
		return api.ErrMany
	}
	for i, slot := range l {
		if slot < 0 || slot >= sides*m.Gears {
			return api.ErrUnknown
		}
		if slices.Contains(l[:i], slot) {
			return api.ErrTwice
		}
	}
	return api.OK
}

// Steps returns the slots of carriers after n steps.
func Steps(m Machine, l []int, n int) ([]int, api.Errno) {
	if e := check.First(CheckLoad(m, l), check.Range(n, 0, api.MaxNumber)); e != api.OK {
		return nil, e
	}
	perm, _ := Perm(m)
	power, e := number.Power(perm, n)
	return through(power, l), e
}

// Meet returns the first step and the place at which two carriers meet.
func Meet(m Machine, l []int) (int, int, api.Errno) {
	if e := CheckLoad(m, l); e != api.OK {
		return 0, 0, e
	}
	return firstMeeting(m, l, math.MaxInt)
}

// Accept returns OK for carriers that never meet.
func Accept(m Machine, l []int) api.Errno {
	if e := CheckLoad(m, l); e != api.OK {
		return e
	}
	return check.That(neverMeet(m, l), api.ErrMeet)
}

// Free returns the slots for one more carrier.
func Free(m Machine, l []int) ([]int, api.Errno) {
	if e := Accept(m, l); e != api.OK {
		return nil, e
	}
	var free []int
	for slot := range sides * m.Gears {
		if !slices.Contains(l, slot) && neverMeet(m, append(slices.Clone(l), slot)) {
			free = append(free, slot)
		}
	}
	return free, api.OK
}

// Fill returns the first of the greatest loads.
func Fill(m Machine) ([]int, api.Errno) {
	if e := check.First(CheckMachine(m), check.That(m.Gears <= Exact, api.ErrLimit)); e != api.OK {
		return nil, e
	}
	var best []int
	var extend func(load, slots []int)
	// It extends a load by some of the slots that are behind it and in which a carrier meets none of the load. So loads
	// come in their lexicographical order, and the first one of its size stays.
	extend = func(load, slots []int) {
		if len(load) > len(best) {
			best = load
		}
		for i, slot := range slots {
			extend(append(slices.Clone(load), slot), withoutMeeting(m, slot, slots[i+1:]))
		}
	}
	all, _ := Free(m, nil)
	extend(nil, all)
	return best, api.OK
}

// withoutMeeting returns those of some slots in which a carrier never meets one that is in another slot.
func withoutMeeting(m Machine, other int, slots []int) []int {
	var rest []int
	for _, slot := range slots {
		if neverMeet(m, []int{other, slot}) {
			rest = append(rest, slot)
		}
	}
	return rest
}

func neverMeet(m Machine, l []int) bool {
	_, _, e := firstMeeting(m, l, math.MaxInt)
	return e == api.ErrNone
}

// meetNow returns ErrMeet if two carriers meet at once, and meetWithin if they do at once or after one of some steps.
func meetNow(m Machine, l []int) api.Errno {
	return meetWithin(m, l, 0)
}

func meetWithin(m Machine, l []int, steps int) api.Errno {
	_, _, e := firstMeeting(m, l, steps)
	return check.That(e == api.ErrNone, api.ErrMeet)
}

// firstMeeting returns the first number of steps, up to a limit, after which two carriers meet, and the place; or ErrNone.
func firstMeeting(m Machine, l []int, most int) (int, int, api.Errno) {
	perm, _ := Perm(m)
	steps, place := 0, 0
	now := l
search:
	for {
		in := carriersIn(m, now)
		for at, slots := range sharedPlaces(m) {
			if in[slots[0]] != nobody && in[slots[1]] != nobody {
				place = at
				break search
			}
		}
		steps++
		now = through(perm, now)
		if steps > most || slices.Equal(now, l) { // they have come round, and would only repeat themselves
			return 0, 0, api.ErrNone
		}
	}
	return steps, place, api.OK
}

// carriersIn returns the carrier in each slot, or nobody.
func carriersIn(m Machine, l []int) []int {
	in := slices.Repeat([]int{nobody}, sides*m.Gears)
	for carrier, slot := range l {
		in[slot] = carrier
	}
	return in
}
