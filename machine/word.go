package machine

import (
	"slices"

	"becket/api"
	"becket/check"
	"becket/lists"
)

// Crossing is a crossing on a gear: the carrier that passes over, and the one that passes under.
type Crossing struct {
	Gear  int
	Over  int
	Under int
}

// Order returns the carriers from left to right.
func Order(m Machine, l []int) ([]int, api.Errno) {
	if e := checkRow(m, l); e != api.OK {
		return nil, e
	}
	if e := meetNow(m, l); e != api.OK {
		return nil, e
	}
	return order(m, l), api.OK
}

// Crossings returns the crossings of the next step.
func Crossings(m Machine, l []int) ([]Crossing, api.Errno) {
	if e := CheckLoad(m, l); e != api.OK {
		return nil, e
	}
	if e := meetNow(m, l); e != api.OK {
		return nil, e
	}
	return crossings(m, l), api.OK
}

// Word returns the word that n steps weave.
func Word(m Machine, l []int, n int) ([]int, api.Errno) {
	word, _, e := weave(m, l, n)
	if e != api.OK {
		return nil, e
	}
	if len(word) > api.MaxWord {
		return nil, api.ErrLong
	}
	return word, api.OK
}

// Strands returns the positions at which strands end after n steps.
func Strands(m Machine, l []int, n int) ([]int, api.Errno) {
	_, ends, e := weave(m, l, n)
	if e != api.OK {
		return nil, e
	}
	return lists.Map(order(m, l), func(carrier int) int { return slices.Index(ends, carrier) }), api.OK
}

// checkRow returns the first error of the slots of carriers in a machine that has to be a row.
func checkRow(m Machine, l []int) api.Errno {
	return check.First(CheckLoad(m, l), check.That(!m.Ring, api.ErrKind))
}

// weave returns the word that n steps weave, of any length, and the order of the carriers at its end.
func weave(m Machine, l []int, n int) ([]int, []int, api.Errno) {
	e := check.First(checkRow(m, l), check.That(len(l) <= api.MaxStrands, api.ErrMany), check.Range(n, 0, api.MaxSteps))
	if e != api.OK {
		return nil, nil, e
	}
	if e := meetWithin(m, l, n); e != api.OK {
		return nil, nil, e
	}
	perm, _ := Perm(m)
	var word []int
	carriers := order(m, l)
	for range n {
		for _, c := range crossings(m, l) {
			word = append(word, cross(carriers, c))
		}
		l = through(perm, l)
	}
	return word, carriers, api.OK
}

// cross exchanges two carriers in their order, and returns the letter of their crossing.
func cross(carriers []int, c Crossing) int {
	over, under := slices.Index(carriers, c.Over), slices.Index(carriers, c.Under)
	carriers[over], carriers[under] = c.Under, c.Over
	if over < under {
		return over + 1
	}
	return -(under + 1)
}

// order returns the carriers from left to right.
func order(m Machine, l []int) []int {
	in := carriersIn(m, l)
	carriers := make([]int, 0, len(l))
	for g := range gears(m) {
		for _, slot := range g.slots {
			if in[slot] != nobody {
				carriers = append(carriers, in[slot])
			}
		}
	}
	return carriers
}

// crossings returns the crossings of the next step, in their sequence.
func crossings(m Machine, l []int) []Crossing {
	in := carriersIn(m, l)
	var list []Crossing
	for g := range gears(m) {
		for _, pair := range [3][2]int{{1, 2}, {0, 2}, {1, 3}} { // the one that goes to the right, and the other one
			if c := crossing(g, in[g.slots[pair[0]]], in[g.slots[pair[1]]]); c != (Crossing{}) {
				list = append(list, c)
			}
		}
	}
	return list
}

// crossing returns how two carriers cross on a gear; if one of them is not there, a crossing of a carrier with itself, which is none.
func crossing(g gear, toRight, toLeft int) Crossing {
	switch {
	case toRight == nobody || toLeft == nobody:
		return Crossing{}
	case g.forwards: // the front is on the way to the left
		return Crossing{Gear: g.number, Over: toLeft, Under: toRight}
	}
	return Crossing{Gear: g.number, Over: toRight, Under: toLeft}
}
