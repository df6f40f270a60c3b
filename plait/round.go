package plait

import (
	"iter"

	"becket/api"
	"becket/check"
	"becket/number"
)

// Round returns where the thread of each slot goes in a round of moves.
func Round(s []int, l []Move) ([]int, api.Errno) {
	after, e := follow(s, l)
	if e != api.OK {
		return nil, e
	}
	ends := slotsOf(after)
	round := make([]int, len(s))
	for slot, thread := range s {
		if (thread == free) != (after[slot] == free) {
			return nil, api.ErrState
		}
		round[slot] = slot
		if thread != free {
			round[slot] = ends[thread]
		}
	}
	return round, api.OK
}

// Rounds returns after how many rounds the stand is as it was.
func Rounds(s []int, l []Move) (api.Rat, api.Errno) {
	round, e := Round(s, l)
	if e != api.OK {
		return "", e
	}
	return number.Period(round)
}

// Spans returns over how many threads each move passes.
func Spans(s []int, l []Move) ([]int, api.Errno) {
	if e := check.First(CheckStand(s), checkMoves(l)); e != api.OK {
		return nil, e
	}
	spans := make([]int, len(l))
	for i, m := range l {
		after, e := Next(s, m)
		if e != api.OK {
			return nil, e
		}
		spans[i] = span(s, m)
		s = after
	}
	return spans, api.OK
}

// slotsOf returns the slot of each thread.
func slotsOf(s []int) map[int]int {
	slots := map[int]int{}
	for slot, thread := range s {
		if thread != free {
			slots[thread] = slot
		}
	}
	return slots
}

// span returns over how many threads a legal move passes.
func span(s []int, m Move) int {
	begin, end := m.From, m.To
	ascending := (end - begin + len(s)) % len(s)
	if ascending > len(s)-ascending { // the slots on the way with descending numbers are those from the end to the beginning
		begin, end = end, begin
	}
	count := 0
	for slot := range slotsBetween(begin, end, len(s)) {
		if s[slot] != free {
			count++
		}
	}
	return count
}

// slotsBetween goes through the slots of a ring that are strictly between two others, with ascending numbers.
func slotsBetween(begin, end, slots int) iter.Seq[int] {
	return func(yield func(int) bool) {
		for slot := (begin + 1) % slots; slot != end && yield(slot); slot = (slot + 1) % slots {
		}
	}
}
