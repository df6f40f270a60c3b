package plait_test

import (
	"math"
	"slices"
	"testing"

	"becket/api"
	"becket/plait"
)

// The tests of P7.1.

func TestCheckStand(t *testing.T) {
	for _, s := range [][]int{
		{0, 0, 0, 0}, {1, 2, 3, 4}, {64, 0, 0, 1}, {64, 63, 0, 62, 0}, chapterPlay().s, make([]int, 64), randomStand(seeded(), 64, 64),
	} {
		same(t, plait.CheckStand(s), api.OK, s)
	}
	for i, bad := range badStands() {
		same(t, plait.CheckStand(bad.s), bad.e, i)
	}
}

func TestMovesOfTheChapter(t *testing.T) {
	s := chapterPlay().s
	for _, example := range []struct {
		m      plait.Move
		rule   int
		wanted []int
	}{
		{plait.Move{From: 0, To: 2}, 0, []int{0, 2, 1, 0, 3, 4, 0, 0}},
		{plait.Move{From: 0, To: 7}, 0, []int{0, 2, 0, 0, 3, 4, 0, 1}},
		{plait.Move{From: 5, To: 2}, 0, []int{1, 2, 4, 0, 3, 0, 0, 0}},
		{plait.Move{From: 2, To: 3}, 2, nil}, {plait.Move{From: 0, To: 1}, 3, nil}, {plait.Move{From: 0, To: 8}, 1, nil}, {plait.Move{From: 8, To: 0}, 1, nil},
		{plait.Move{From: -1, To: 2}, 1, nil}, {plait.Move{From: 0, To: -1}, 1, nil}, {plait.Move{From: 2, To: 8}, 1, nil}, {plait.Move{From: 2, To: 0}, 2, nil},
		{plait.Move{From: 0, To: 0}, 3, nil}, {plait.Move{From: 2, To: 2}, 2, nil}, {plait.Move{From: 8, To: 8}, 1, nil},
		{plait.Move{From: math.MinInt, To: 2}, 1, nil}, {plait.Move{From: 0, To: math.MaxInt}, 1, nil}, {plait.Move{From: math.MaxInt, To: math.MinInt}, 1, nil},
	} {
		rule, e := plait.Legal(s, example.m)
		sameResult(t, rule, e, example.rule, api.OK, example.m)
		code := api.OK
		if example.rule != 0 {
			code = api.ErrRule
		}
		next, e := plait.Next(s, example.m)
		sameResult(t, next, e, example.wanted, code, example.m)
	}
}

func TestMovesOfMany(t *testing.T) {
	for _, x := range manyPlays() {
		after, refusals, _ := playIn(x.s, x.l)
		s, aside, e := plait.Replay(x.s, x.l)
		sameResult(t, s, e, after, api.OK, x)
		same(t, aside, refusals, x)
		for _, m := range x.l[:min(10, len(x.l))] {
			after, refusals, _ := playIn(x.s, []plait.Move{m})
			wanted, code := 0, api.OK
			if len(refusals) > 0 {
				wanted, code, after = refusals[0].Rule, api.ErrRule, nil
			}
			rule, e := plait.Legal(x.s, m)
			sameResult(t, rule, e, wanted, api.OK, x.s, m)
			next, e := plait.Next(x.s, m)
			sameResult(t, next, e, after, code, x.s, m)
		}
	}
}

func TestReplay(t *testing.T) {
	s, aside, e := plait.Replay(chapterPlay().s, moves(0, 2, 0, 3, 1, 0, 9, 9, 0, 4, 4, 6))
	sameResult(t, s, e, []int{2, 0, 1, 0, 0, 4, 3, 0}, api.OK)
	same(t, aside, []plait.Refusal{{Number: 2, Rule: 2}, {Number: 4, Rule: 1}, {Number: 5, Rule: 3}})
	s, aside, e = plait.Replay(chapterPlay().s, nil)
	sameResult(t, s, e, chapterPlay().s, api.OK)
	same(t, len(aside), 0)
	s, aside, e = plait.Replay([]int{0, 0, 0, 0}, repeated(1000, plait.Move{From: 0, To: 1}))
	sameResult(t, s, e, []int{0, 0, 0, 0}, api.OK)
	same(t, len(aside), 1000)
	same(t, aside[999], plait.Refusal{Number: 1000, Rule: 2})
}

func TestUndo(t *testing.T) {
	for _, example := range []struct{ l, wanted []plait.Move }{
		{nil, nil}, {moves(0, 2, 1, 0), moves(0, 1, 2, 0)}, {moves(1, 2, 3, 4, 5, 6), moves(6, 5, 4, 3, 2, 1)}, {moves(7, 7), moves(7, 7)},
		{moves(math.MinInt, -1, 0, math.MaxInt), moves(math.MaxInt, 0, -1, math.MinInt)}, {repeated(1000, plait.Move{From: 1, To: 2}), repeated(1000, plait.Move{From: 2, To: 1})},
	} {
		l, e := plait.Undo(example.l)
		sameResult(t, l, e, example.wanted, api.OK)
	}
	for _, count := range []int{1001, 100000} {
		l, e := plait.Undo(make([]plait.Move, count))
		sameResult(t, l, e, []plait.Move{}, api.ErrMany)
	}
}

func TestTurned(t *testing.T) {
	for _, example := range []struct {
		by     int
		wanted []int
	}{
		{4, []int{3, 4, 0, 0, 1, 2, 0, 0}}, {0, chapterPlay().s}, {8, chapterPlay().s}, {-8, chapterPlay().s}, {1, []int{0, 1, 2, 0, 0, 3, 4, 0}}, {-1, []int{2, 0, 0, 3, 4, 0, 0, 1}},
		{9, []int{0, 1, 2, 0, 0, 3, 4, 0}}, {-17, []int{2, 0, 0, 3, 4, 0, 0, 1}}, {math.MinInt, chapterPlay().s}, {math.MaxInt, []int{2, 0, 0, 3, 4, 0, 0, 1}},
	} {
		s, e := plait.Turned(chapterPlay().s, example.by)
		sameResult(t, s, e, example.wanted, api.OK, example.by)
	}
	for _, x := range manyPlays() {
		for _, by := range []int{0, 1, 2, 3, len(x.s) - 1, len(x.s), len(x.s) + 1, -1, -2, -len(x.s), 12345, -54321, math.MinInt, math.MinInt + 1, math.MaxInt} {
			s, e := plait.Turned(x.s, by)
			sameResult(t, s, e, turnedIn(x.s, by), api.OK, x.s, by)
		}
	}
}

func TestAlike(t *testing.T) {
	for _, example := range []struct {
		s, t []int
		turn int
		e    api.Errno
	}{
		{chapterPlay().s, []int{3, 4, 0, 0, 1, 2, 0, 0}, 4, api.OK}, {chapterPlay().s, chapterPlay().s, 0, api.OK}, {make([]int, 9), make([]int, 9), 0, api.OK},
		{chapterPlay().s, []int{1, 2, 0, 0, 4, 3, 0, 0}, 0, api.ErrNone}, {chapterPlay().s, []int{1, 2, 0, 0, 3, 5, 0, 0}, 0, api.ErrNone}, {chapterPlay().s, make([]int, 8), 0, api.ErrNone},
		{[]int{1, 2, 3, 4}, []int{4, 3, 2, 1}, 0, api.ErrNone}, {[]int{1, 0, 0, 0}, []int{0, 0, 0, 1}, 3, api.OK}, {[]int{0, 0, 0, 1}, []int{1, 0, 0, 0}, 1, api.OK},
		{make([]int, 8), make([]int, 9), 0, api.ErrShape}, {chapterPlay().s, []int{1, 2, 3, 4}, 0, api.ErrShape}, {[]int{1, 2, 3, 4}, chapterPlay().s, 0, api.ErrShape},
	} {
		turn, e := plait.Alike(example.s, example.t)
		sameResult(t, turn, e, example.turn, example.e, example)
	}
	for _, x := range manyPlays() {
		for by := range len(x.s) {
			wanted := by
			if slices.Max(x.s) == 0 {
				wanted = 0
			}
			turn, e := plait.Alike(x.s, turnedIn(x.s, by))
			sameResult(t, turn, e, wanted, api.OK, x.s, by)
		}
	}
}

func TestErrorsOfStands(t *testing.T) {
	stand := func() play { return play{[]int{1, 0, 0, 2}, moves(0, 1)} }
	checkFaults(t, stand, faultsOfStands(), func(x play) api.Errno {
		rule, e := plait.Legal(x.s, x.l[0])
		same(t, rule, 0)
		return e
	})
	checkFaults(t, stand, faultsOfStands(), func(x play) api.Errno {
		s, e := plait.Turned(x.s, 3)
		same(t, len(s) > 0, e == api.OK)
		return e
	})
	refused := fault[play]{func(x *play) { x.l = moves(4, 0) }, api.ErrRule}
	checkFaults(t, stand, append(faultsOfStands(), refused), func(x play) api.Errno {
		s, e := plait.Next(x.s, x.l[0])
		same(t, len(s) > 0, e == api.OK)
		return e
	})
	checkFaults(t, stand, faultsOfPlays(), func(x play) api.Errno {
		s, aside, e := plait.Replay(x.s, x.l)
		same(t, len(s) > 0, e == api.OK)
		same(t, len(aside), 0)
		return e
	})
}

func TestErrorsOfAlike(t *testing.T) {
	type pair struct{ s, t []int }
	var faults []fault[pair]
	for _, bad := range badStands() {
		faults = append(faults, fault[pair]{func(x *pair) { x.s = bad.s }, bad.e})
	}
	for _, bad := range badStands() {
		faults = append(faults, fault[pair]{func(x *pair) { x.t = bad.s }, bad.e})
	}
	faults = append(faults,
		fault[pair]{func(x *pair) { x.t = []int{5, 0, 0, 0, 0} }, api.ErrShape},
		fault[pair]{func(x *pair) { x.t = []int{5, 0, 0, 0} }, api.ErrNone},
	)
	checkFaults(t, func() pair { return pair{[]int{1, 0, 0, 0}, []int{0, 0, 1, 0}} }, faults, func(x pair) api.Errno {
		turn, e := plait.Alike(x.s, x.t)
		same(t, turn == 2, e == api.OK)
		return e
	})
}
