package plait

import (
	"slices"

	"becket/api"
	"becket/check"
	"becket/lists"
)

// leastSlots is the least number of slots of a stand.
const leastSlots = 4

// free is what a slot without a thread has.
const free = 0

// legal is in the place of the number of a rule where none refuses a move.
const legal = 0

// Move takes a thread of a stand from a slot to another one.
type Move struct {
	From int
	To   int
}

// Refusal is a move that was set aside, and the rule.
type Refusal struct {
	Number int
	Rule   int
}

// CheckStand returns the first error of a stand (the thread of each slot, 0 for none), or OK.
func CheckStand(s []int) api.Errno {
	before := map[int]bool{}
	return check.First(
		check.That(len(s) >= leastSlots, api.ErrShape),
		check.That(len(s) <= api.MaxSlots, api.ErrMany),
		check.Each(s, func(thread int) api.Errno {
			e := check.First(check.Range(thread, 0, api.MaxSlots), check.That(!before[thread], api.ErrTwice))
			before[thread] = thread != free
			return e
		}),
	)
}

// Legal returns the number of the rule that refuses a move, or 0.
func Legal(s []int, m Move) (int, api.Errno) {
	if e := CheckStand(s); e != api.OK {
		return 0, e
	}
	return refusing(s, m), api.OK
}

// Next returns the stand after a move.
func Next(s []int, m Move) ([]int, api.Errno) {
	return follow(s, []Move{m})
}

// Replay returns the stand after some moves, and what was set aside.
func Replay(s []int, l []Move) ([]int, []Refusal, api.Errno) {
	if e := check.First(CheckStand(s), checkMoves(l)); e != api.OK {
		return nil, nil, e
	}
	after := slices.Clone(s)
	var refusals []Refusal
	for i, m := range l {
		if rule := refusing(after, m); rule != legal {
			refusals = append(refusals, Refusal{Number: i + 1, Rule: rule})
			continue
		}
		after[m.From], after[m.To] = free, after[m.From]
	}
	return after, refusals, api.OK
}

// Undo returns the moves that lead back.
func Undo(l []Move) ([]Move, api.Errno) {
	if e := checkMoves(l); e != api.OK {
		return nil, e
	}
	return lists.Reversed(lists.Map(l, func(m Move) Move { return Move{From: m.To, To: m.From} })), api.OK
}

// Turned returns a stand that is turned by some slots.
func Turned(s []int, by int) ([]int, api.Errno) {
	if e := CheckStand(s); e != api.OK {
		return nil, e
	}
	return lists.Rotated(s, by), api.OK
}

// Alike returns the least turn after which a stand is another one.
func Alike(s, t []int) (int, api.Errno) {
	if e := check.First(CheckStand(s), CheckStand(t), check.That(len(s) == len(t), api.ErrShape)); e != api.OK {
		return 0, e
	}
search:
	for turn := range len(s) {
		for slot, thread := range s {
			if t[(slot+turn)%len(t)] != thread {
				continue search
			}
		}
		return turn, api.OK
	}
	return 0, api.ErrNone
}

func checkMoves(l []Move) api.Errno {
	return check.That(len(l) <= api.MaxSteps, api.ErrMany)
}

// follow returns the stand after moves all of which have to be legal.
func follow(s []int, l []Move) ([]int, api.Errno) {
	after, refusals, e := Replay(s, l)
	if e := check.First(e, check.That(len(refusals) == 0, api.ErrRule)); e != api.OK {
		return nil, e
	}
	return after, api.OK
}

// refusing returns the number of the rule that refuses a move.
func refusing(s []int, m Move) int {
	isSlot := func(at int) bool { return at >= 0 && at < len(s) }
	return check.Broken(
		func() bool { return isSlot(m.From) && isSlot(m.To) },
		func() bool { return s[m.From] != free },
		func() bool { return s[m.To] == free },
	)
}
