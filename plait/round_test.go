package plait_test

import (
	"slices"
	"strconv"
	"testing"

	"becket/api"
	"becket/plait"
)

// The tests of P7.2 but for texts.

func TestRoundsOfTheChapter(t *testing.T) {
	x := chapterPlay()
	round, e := plait.Round(x.s, x.l)
	sameResult(t, round, e, []int{1, 4, 2, 3, 5, 0, 6, 7}, api.OK)
	count, e := plait.Rounds(x.s, x.l)
	sameResult(t, count, e, api.Rat("4"), api.OK)
	round, e = plait.Round(x.s, nil)
	sameResult(t, round, e, []int{0, 1, 2, 3, 4, 5, 6, 7}, api.OK)
	count, e = plait.Rounds(x.s, nil)
	sameResult(t, count, e, api.Rat("1"), api.OK)
	count, e = plait.Rounds(make([]int, 64), nil)
	sameResult(t, count, e, api.Rat("1"), api.OK)
	count, e = plait.Rounds(x.s, moves(0, 2, 2, 0))
	sameResult(t, count, e, api.Rat("1"), api.OK)
	round, e = plait.Round(x.s, moves(0, 2, 1, 0, 2, 1))
	sameResult(t, round, e, []int{1, 0, 2, 3, 4, 5, 6, 7}, api.OK)
	count, e = plait.Rounds(x.s, moves(0, 2, 1, 0, 2, 1))
	sameResult(t, count, e, api.Rat("2"), api.OK)
}

// cyclesOn returns a stand with one free slot at the end, and the moves that take threads round in cycles of these lengths.
func cyclesOn(lengths ...int) play {
	var x play
	for _, length := range lengths {
		first := len(x.s)
		for range length {
			x.s = append(x.s, len(x.s)+1)
		}
		x.l = append(x.l, plait.Move{From: first + length - 1, To: -1})
		for slot := first + length - 2; slot >= first; slot-- {
			x.l = append(x.l, plait.Move{From: slot, To: slot + 1})
		}
		x.l = append(x.l, plait.Move{From: -1, To: first})
	}
	for i, m := range x.l { // -1 stands for the free slot, until this is known
		if m.From == -1 {
			x.l[i].From = len(x.s)
		}
		if m.To == -1 {
			x.l[i].To = len(x.s)
		}
	}
	x.s = append(x.s, 0)
	return x
}

func TestGreatRounds(t *testing.T) {
	for _, example := range []struct {
		lengths []int
		wanted  api.Rat
	}{
		{[]int{3}, "3"}, {[]int{2, 2}, "2"}, {[]int{4, 6}, "12"}, {[]int{63}, "63"}, {[]int{3, 4, 5, 7, 11, 13, 17}, "1021020"}, {[]int{4, 5, 7, 9, 11, 13}, "180180"},
	} {
		x := cyclesOn(example.lengths...)
		count, e := plait.Rounds(x.s, x.l)
		sameResult(t, count, e, example.wanted, api.OK, example)
	}
}

func TestRoundsOfMany(t *testing.T) {
	found := map[api.Errno]int{}
	for _, x := range manyPlays() {
		after, refusals, _ := playIn(x.s, x.l)
		code := api.OK
		var wanted []int
		switch {
		case len(refusals) > 0:
			code = api.ErrRule
		case slices.ContainsFunc(positionsIn(len(x.s)), func(i int) bool { return (x.s[i-1] == 0) != (after[i-1] == 0) }):
			code = api.ErrState
		default:
			for slot, thread := range x.s {
				wanted = append(wanted, slot)
				if thread != 0 {
					wanted[slot] = slices.Index(after, thread)
				}
			}
		}
		found[code]++
		round, e := plait.Round(x.s, x.l)
		sameResult(t, round, e, wanted, code, x)
		count, e := plait.Rounds(x.s, x.l)
		same(t, e, code, x)
		if rounds := roundsIn(x, after); code == api.OK && rounds < 10000 {
			same(t, count, api.Rat(strconv.Itoa(rounds)), x)
		}
	}
	same(t, found[api.OK] > 100 && found[api.ErrRule] > 100, true, found)
}

// roundsIn returns after how many rounds a stand is the first one, for the first time, up to 10000.
func roundsIn(x play, after []int) int {
	count := 1
	for now := after; !slices.Equal(now, x.s) && count < 10000; count++ {
		next := make([]int, len(now))
		for slot, thread := range x.s { // what one round does to the threads of the first stand
			if thread != 0 {
				next[slices.Index(after, thread)] = now[slot]
			}
		}
		now = next
	}
	return count
}

func TestSpans(t *testing.T) {
	for _, example := range []struct {
		s      []int
		l      []plait.Move
		wanted []int
	}{
		{chapterPlay().s, moves(0, 2), []int{1}}, {chapterPlay().s, moves(0, 2, 5, 7, 4, 0), []int{1, 0, 1}}, {chapterPlay().s, nil, nil},
		{chapterPlay().s, chapterPlay().l, []int{0, 0, 0, 0, 0, 0}}, {chapterPlay().s, moves(0, 6), []int{0}}, {chapterPlay().s, moves(1, 7), []int{1}},
		{chapterPlay().s, moves(5, 3), []int{1}}, {[]int{1, 2, 3, 0, 0, 0}, moves(0, 3), []int{2}}, {[]int{0, 2, 3, 1, 0, 0}, moves(3, 0), []int{0}}, // both ways are equally long
		{[]int{0, 0, 0, 1, 2, 3}, moves(3, 0), []int{2}}, {[]int{0, 0, 0, 1, 2, 3}, moves(5, 2), []int{0}}, {[]int{1, 2, 0, 0}, moves(0, 2, 1, 3), []int{1, 1}},
		{[]int{1, 2, 3, 0, 0}, moves(0, 3), []int{0}}, {[]int{1, 2, 3, 4, 0}, moves(1, 4), []int{1}}, {[]int{1, 2, 3, 4, 0}, moves(2, 4), []int{1}},
	} {
		spans, e := plait.Spans(example.s, example.l)
		sameResult(t, spans, e, example.wanted, api.OK, example)
	}
	for _, x := range manyPlays() {
		_, refusals, wanted := playIn(x.s, x.l)
		code := api.OK
		if len(refusals) > 0 {
			code, wanted = api.ErrRule, nil
		}
		spans, e := plait.Spans(x.s, x.l)
		sameResult(t, spans, e, wanted, code, x)
	}
}

// Each legal move on stands with all sets of threads.
func TestSpansOfSingleMoves(t *testing.T) {
	for slots := 4; slots <= 7; slots++ {
		for set := range 1 << slots {
			s := make([]int, slots)
			for slot := range s {
				s[slot] = (slot + 1) * (set >> slot & 1)
			}
			for from := range slots {
				for to := range slots {
					if s[from] != 0 && s[to] == 0 {
						spans, e := plait.Spans(s, moves(from, to))
						sameResult(t, spans, e, []int{spanIn(slots, threadsIn(s), plait.Move{From: from, To: to})}, api.OK, s, from, to)
					}
				}
			}
		}
	}
}

func TestErrorsOfRounds(t *testing.T) {
	good := func() play { return play{[]int{1, 0, 0, 2}, moves(0, 1, 1, 0)} }
	faults := append(faultsOfPlays(),
		fault[play]{func(x *play) { x.l = moves(0, 1, 0, 2) }, api.ErrRule},
		fault[play]{func(x *play) { x.l = moves(4, 0, 0, 1, 1, 0) }, api.ErrRule},
		fault[play]{func(x *play) { x.l = append(moves(0, 1), repeated(999, plait.Move{From: 0, To: 3})...) }, api.ErrRule},
	)
	checkFaults(t, good, faults, func(x play) api.Errno {
		spans, e := plait.Spans(x.s, x.l)
		same(t, len(spans) > 0, e == api.OK)
		return e
	})
	faults = append(faults,
		fault[play]{func(x *play) { x.l = moves(0, 1) }, api.ErrState},
		fault[play]{func(x *play) { x.l = moves(3, 2) }, api.ErrState},
		fault[play]{func(x *play) { x.l = moves(0, 1, 3, 2, 1, 3) }, api.ErrState},
	)
	checkFaults(t, good, faults, func(x play) api.Errno {
		round, e := plait.Round(x.s, x.l)
		same(t, len(round) > 0, e == api.OK)
		count, other := plait.Rounds(x.s, x.l)
		same(t, count != "", e == api.OK)
		same(t, other, e)
		return e
	})
	spans, e := plait.Spans(good().s, moves(0, 1)) // which is no round, but legal
	sameResult(t, spans, e, []int{0}, api.OK)
}
