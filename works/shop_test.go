package works_test

import (
	"slices"
	"testing"

	"becket/api"
	"becket/works"
)

// The tests of P9.4.

func TestCheckShop(t *testing.T) {
	for _, x := range manyShops(200, 32) {
		same(t, works.CheckShop(x.s), api.OK, x)
	}
	checkFaults(t, chapterShop, faultsOfShops(), func(x shopping) api.Errno { return works.CheckShop(x.s) })
}

func TestShopOfTheChapter(t *testing.T) {
	s := chapterShop().s
	time, e := works.Makespan(s, []int{0, 1})
	sameResult(t, time, e, 13, api.OK)
	time, e = works.Makespan(s, []int{1, 0})
	sameResult(t, time, e, 11, api.OK)
	order, e := works.Sequence(s)
	sameResult(t, order, e, []int{1, 0}, api.OK)
	bound, e := works.Least(s)
	sameResult(t, bound, e, 11, api.OK)
	order, e = works.Improve(s, []int{0, 1})
	sameResult(t, order, e, []int{1, 0}, api.OK)
	order, e = works.Improve(s, []int{1, 0})
	sameResult(t, order, e, []int{1, 0}, api.OK)
}

func TestMakespansOfMany(t *testing.T) {
	for _, x := range manyShops(400, 32) {
		time, e := works.Makespan(x.s, x.order)
		sameResult(t, time, e, spanIn(x.s, x.order), api.OK, x)
	}
	time, e := works.Makespan(evenShop(32, 1000000, 1000000, 1000000), numbersTo(32))
	sameResult(t, time, e, 64000000, api.OK)
}

func TestLeastOfMany(t *testing.T) {
	for _, x := range manyShops(400, 32) {
		bound, e := works.Least(x.s)
		sameResult(t, bound, e, leastIn(x.s), api.OK, x)
	}
	bound, e := works.Least(works.Shop{Times: []int{5}, First: []int{3}, Setup: [][]int{{0}}}) // the set-up time after itself does not count
	sameResult(t, bound, e, 8, api.OK)
	bound, e = works.Least(works.Shop{Times: []int{0, 0}, First: []int{9, 9}, Setup: [][]int{{0, 4}, {7, 0}}})
	sameResult(t, bound, e, 11, api.OK)
}

func TestSequencesOfMany(t *testing.T) {
	for _, x := range manyShops(200, 6) {
		order, e := works.Sequence(x.s)
		sameResult(t, order, e, sequenceIn(x.s), api.OK, x)
	}
	tried := 0
	for _, x := range manyShops(40, 8) {
		if len(x.order) >= 7 {
			tried++
			order, e := works.Sequence(x.s)
			sameResult(t, order, e, sequenceIn(x.s), api.OK, x)
		}
	}
	same(t, tried > 4, true, tried)
	order, e := works.Sequence(evenShop(8, 7, 5, 3))
	sameResult(t, order, e, numbersTo(8), api.OK)
}

func TestImprove(t *testing.T) {
	for _, x := range manyShops(300, 12) {
		order, e := works.Improve(x.s, x.order)
		sameResult(t, order, e, improvedIn(x.s, x.order), api.OK, x)
	}
	for _, x := range manyShops(12, 32) {
		order, e := works.Improve(x.s, x.order)
		sameResult(t, order, e, improvedIn(x.s, x.order), api.OK, x)
	}
}

// Of exchanges after which the time is the same the one with the least first place, then the least second one, is made.
func TestTheFirstOfEqualExchanges(t *testing.T) {
	s := evenShop(3, 1, 5, 2)
	s.First = []int{5, 4, 4} // it is best to begin with 1 or 2
	order, e := works.Improve(s, []int{0, 1, 2})
	sameResult(t, order, e, []int{1, 0, 2}, api.OK)
	s = evenShop(4, 1, 2, 9)
	s.Setup[0][3], s.Setup[2][0] = 8, 8 // the exchanges 0, 2 and 0, 3 and 1, 3 save 1; after the first of them 0, 1 saves 1 more
	order, e = works.Improve(s, []int{0, 1, 2, 3})
	sameResult(t, order, e, []int{1, 2, 0, 3}, api.OK)
	order, e = works.Improve(evenShop(4, 1, 2, 9), []int{3, 1, 2, 0}) // no exchange makes it shorter
	sameResult(t, order, e, []int{3, 1, 2, 0}, api.OK)
	order, e = works.Improve(evenShop(1, 1, 2, 9), []int{0})
	sameResult(t, order, e, []int{0}, api.OK)
}

func TestErrorsOfShops(t *testing.T) {
	checkFaults(t, chapterShop, faultsOfSequences(), func(x shopping) api.Errno {
		time, e := works.Makespan(x.s, x.order)
		same(t, time > 0, e == api.OK)
		return e
	})
	checkFaults(t, chapterShop, faultsOfSequences(), func(x shopping) api.Errno {
		order, e := works.Improve(x.s, x.order)
		same(t, len(order) > 0, e == api.OK)
		return e
	})
	checkFaults(t, chapterShop, faultsOfShops(), func(x shopping) api.Errno {
		bound, e := works.Least(x.s)
		same(t, bound > 0, e == api.OK)
		return e
	})
	many := fault[shopping]{func(x *shopping) { x.s = evenShop(9, 1, 1, 1) }, api.ErrLimit}
	most := fault[shopping]{func(x *shopping) { x.s = evenShop(32, 1, 1, 1) }, api.ErrLimit}
	checkFaults(t, chapterShop, slices.Concat(faultsOfShops(), []fault[shopping]{many, most}), func(x shopping) api.Errno {
		order, e := works.Sequence(x.s)
		same(t, len(order) > 0, e == api.OK)
		return e
	})
}
