package machine

import (
	"iter"
	"slices"

	"becket/lists"
)

// The sides of a gear, in the order in which carriers pass them if it goes forwards.
const (
	left = iota
	back
	right
	front
	sides
)

// gear is a gear of a machine. Its slots are ordered from left to right.
type gear struct {
	number   int
	forwards bool
	slots    [sides]int
}

// gears goes through the gears of a machine, from left to right.
func gears(m Machine) iter.Seq[gear] {
	return func(yield func(gear) bool) {
		for number := range m.Gears {
			if !yield(gearOf(m, number)) {
				return
			}
		}
	}
}

func gearOf(m Machine, number int) gear {
	g := gear{number: number, forwards: (m.Turn == 1) == (number%2 == 0)}
	order := [sides]int{left, back, front, right}
	if !g.forwards {
		order = [sides]int{left, front, back, right}
	}
	for i, side := range order {
		g.slots[i] = slotOf(number, side)
	}
	return g
}

func slotOf(number, side int) int {
	return sides*number + side
}

// next returns at which of a gear's slots a carrier is next; so it is the same whichever way the gear goes, since the
// order of the slots from left to right depends on that.
func next(i int) int {
	return [sides]int{1, 3, 0, 2}[i]
}

// firstShared returns the first place that two gears have; all later ones are shared, too.
func firstShared(m Machine) int {
	if m.Ring {
		return 0
	}
	return 1
}

// sharedPlaces goes through the shared places of a machine, each one with its two slots.
func sharedPlaces(m Machine) iter.Seq2[int, [2]int] {
	return func(yield func(int, [2]int) bool) {
		for place := firstShared(m); place < m.Gears; place++ {
			before := (place + m.Gears - 1) % m.Gears
			if !yield(place, [2]int{slotOf(before, right), slotOf(place, left)}) {
				return
			}
		}
	}
}

// otherSlots returns for each slot the other one of its place, if this is shared and has no switch; otherwise the slot itself.
func otherSlots(m Machine) []int {
	others := lists.Numbers(sides * m.Gears)
	for place, slots := range sharedPlaces(m) {
		if !slices.Contains(m.Switches, place) {
			others[slots[0]], others[slots[1]] = slots[1], slots[0]
		}
	}
	return others
}

// through returns the slots to which a permutation leads from some slots.
func through(perm, slots []int) []int {
	return lists.Map(slots, func(slot int) int { return perm[slot] })
}
