package machine_test

import (
	"slices"

	"becket/api"
	"becket/machine"
)

// The model follows single carriers by the words of the chapter.

// The sides of a gear.
const (
	left  = 0
	back  = 1
	right = 2
	front = 3
)

// goesForwards tells whether a gear does.
func goesForwards(m machine.Machine, gear int) bool {
	return m.Turn == 1 && gear%2 == 0 || m.Turn == -1 && gear%2 == 1
}

// placeOf returns the shared place of a slot and its other slot, or -1 and the slot itself.
func placeOf(m machine.Machine, slot int) (place, other int) {
	gear, side := slot/4, slot%4
	switch {
	case side == left && gear > 0:
		return gear, 4*(gear-1) + right
	case side == right && gear < m.Gears-1:
		return gear + 1, 4*(gear+1) + left
	case side == left && m.Ring:
		return 0, 4*(m.Gears-1) + right
	case side == right && m.Ring:
		return 0, left
	}
	return -1, slot
}

// overIn returns where a carrier is that comes to a slot.
func overIn(m machine.Machine, slot int) int {
	place, other := placeOf(m, slot)
	if slices.Contains(m.Switches, place) {
		return slot
	}
	return other
}

// stepIn returns the slot to which a carrier goes in a step.
func stepIn(m machine.Machine, slot int) int {
	gear, side := slot/4, slot%4
	after := [4]int{left: back, back: right, right: front, front: left}
	if !goesForwards(m, gear) {
		after = [4]int{left: front, front: right, right: back, back: left}
	}
	return overIn(m, 4*gear+after[side])
}

// stepsIn returns the slots of carriers after some steps.
func stepsIn(m machine.Machine, l []int, steps int) []int {
	l = slices.Clone(l)
	for range steps {
		for carrier, slot := range l {
			l[carrier] = stepIn(m, slot)
		}
	}
	return l
}

// identity returns the slots of a full machine, in their order.
func identity(m machine.Machine) []int {
	l := make([]int, 4*m.Gears)
	for slot := range l {
		l[slot] = slot
	}
	return l
}

// periodIn returns the period of a machine.
func periodIn(m machine.Machine) int {
	l := stepsIn(m, identity(m), 1)
	for steps := 1; ; steps++ {
		if slices.Equal(l, identity(m)) {
			return steps
		}
		l = stepsIn(m, l, 1)
	}
}

// placeIn returns the least place at which carriers meet now, or -1.
func placeIn(m machine.Machine, l []int) int {
	least := -1
	for i, slot := range l {
		place, other := placeOf(m, slot)
		if place >= 0 && slices.Contains(l[:i], other) && (least < 0 || place < least) {
			least = place
		}
	}
	return least
}

// meetIn returns the first meeting of carriers within some steps.
func meetIn(m machine.Machine, l []int, most int) (int, int, api.Errno) {
	for steps := 0; steps <= most; steps++ {
		if place := placeIn(m, l); place >= 0 {
			return steps, place, api.OK
		}
		l = stepsIn(m, l, 1)
	}
	return 0, 0, api.ErrNone
}

// neverMeetIn tells whether carriers never meet.
func neverMeetIn(m machine.Machine, l []int) bool {
	_, _, e := meetIn(m, l, periodIn(m))
	return e == api.ErrNone
}

// rankOf returns a number for each slot, ascending from left to right.
func rankOf(m machine.Machine, slot int) int {
	ranks := [4]int{left: 0, back: 1, front: 2, right: 3}
	if !goesForwards(m, slot/4) {
		ranks = [4]int{left: 0, front: 1, back: 2, right: 3}
	}
	return 4*(slot/4) + ranks[slot%4]
}

// orderIn returns the carriers from left to right.
func orderIn(m machine.Machine, l []int) []int {
	carriers := make([]int, len(l))
	for i := range carriers {
		carriers[i] = i
	}
	slices.SortFunc(carriers, func(a, b int) int { return rankOf(m, l[a]) - rankOf(m, l[b]) })
	return carriers
}

// crossingsIn returns the crossings of the next step.
func crossingsIn(m machine.Machine, l []int) []machine.Crossing {
	var list []machine.Crossing
	for gear := range m.Gears {
		forwards := goesForwards(m, gear)
		toRight, toLeft := back, front
		if !forwards {
			toRight, toLeft = front, back
		}
		cross := func(goesRight, goesLeft int) {
			a, b := slices.Index(l, 4*gear+goesRight), slices.Index(l, 4*gear+goesLeft)
			if a < 0 || b < 0 {
				return
			}
			if forwards {
				a, b = b, a // the one that goes to the left goes along the front
			}
			list = append(list, machine.Crossing{Gear: gear, Over: a, Under: b})
		}
		cross(toRight, toLeft)
		cross(left, toLeft)
		cross(toRight, right)
	}
	return list
}

// wordIn returns the word of some steps, of any length.
func wordIn(m machine.Machine, l []int, steps int) []int {
	var word []int
	for range steps {
		carriers := orderIn(m, l)
		for _, c := range crossingsIn(m, l) {
			for i := range len(carriers) - 1 {
				pair := [2]int{carriers[i], carriers[i+1]}
				if pair == [2]int{c.Over, c.Under} {
					word = append(word, i+1)
				}
				if pair == [2]int{c.Under, c.Over} {
					word = append(word, -i-1)
				}
				if pair == [2]int{c.Over, c.Under} || pair == [2]int{c.Under, c.Over} {
					carriers[i], carriers[i+1] = pair[1], pair[0]
					break
				}
			}
		}
		l = stepsIn(m, l, 1)
	}
	return word
}

// strandsIn returns where the carrier at each position is after some steps.
func strandsIn(m machine.Machine, l []int, steps int) []int {
	before, after := orderIn(m, l), orderIn(m, stepsIn(m, l, steps))
	ends := make([]int, len(l))
	for position, carrier := range before {
		ends[position] = slices.Index(after, carrier)
	}
	return ends
}
