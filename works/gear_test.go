package works_test

import (
	"math/big"
	"testing"

	"becket/api"
	"becket/works"
)

// The tests of P9.1.

func TestCheckWheels(t *testing.T) {
	for _, w := range append(manyWheels(), nil, []int{8}, []int{240}, []int{8, 240, 8, 240, 8, 240, 8, 240}) {
		same(t, works.CheckWheels(w), api.OK, w)
	}
	for _, w := range [][]int{{7}, {241}, {8, 240, 7}, {241, 8}} {
		same(t, works.CheckWheels(w), api.ErrRange, w)
	}
	checkFaults(t, chapterGears, faultsOfWheels(), func(x geared) api.Errno { return works.CheckWheels(x.w) })
}

func TestCheckTrain(t *testing.T) {
	for _, w := range manyWheels() {
		for _, tr := range allTrains(len(w)) {
			same(t, works.CheckTrain(w, tr), api.OK, w, tr)
		}
	}
	same(t, works.CheckTrain(nil, train([]int{0}, []int{1})), api.ErrUnknown)
	same(t, works.CheckTrain(nil, works.Train{}), api.ErrShape)
	checkFaults(t, chapterGears, faultsOfTrains(), func(x geared) api.Errno { return works.CheckTrain(x.w, x.t) })
}

// errorIn returns the error of a train of two drivers, by the numbers of all its wheels.
func errorIn(wheels int, numbers []int) api.Errno {
	for i, number := range numbers {
		if number < 0 || number >= wheels {
			return api.ErrUnknown
		}
		for _, before := range numbers[:i] {
			if before == number {
				return api.ErrTwice
			}
		}
		if i%2 == 1 && numbers[i-1] > number {
			return api.ErrOrder
		}
	}
	return api.OK
}

// All trains of two drivers with numbers from -1 to 5, of four wheels.
func TestAllTrains(t *testing.T) {
	accepted := 0
	for _, list := range allLists(4, 7) {
		for i := range list {
			list[i]--
		}
		tr := train(list[:2], list[2:])
		e := errorIn(4, list)
		same(t, works.CheckTrain(chapterGears().w, tr), e, tr)
		if e == api.OK {
			accepted++
		}
	}
	same(t, accepted, 6)
}

func TestRatio(t *testing.T) {
	for _, example := range []struct {
		t      works.Train
		wanted api.Rat
	}{
		{train([]int{0}, []int{2}), "1/2"}, {train([]int{0, 3}, []int{1, 2}), "5/6"}, {train([]int{2}, []int{0}), "2"}, {train([]int{1}, []int{3}), "3/5"},
		{train([]int{2, 3}, []int{0, 1}), "10/3"}, {train([]int{0, 1}, []int{2, 3}), "3/10"},
	} {
		x, e := works.Ratio(chapterGears().w, example.t)
		sameResult(t, x, e, example.wanted, api.OK, example)
	}
	x, e := works.Ratio([]int{9, 9}, train([]int{1}, []int{0}))
	sameResult(t, x, e, api.Rat("1"), api.OK)
	for _, w := range manyWheels() {
		for _, tr := range allTrains(len(w)) {
			x, e := works.Ratio(w, tr)
			sameResult(t, x, e, rat(ratioIn(w, tr)), api.OK, w, tr)
		}
	}
	checkFaults(t, chapterGears, faultsOfTrains(), func(x geared) api.Errno {
		found, e := works.Ratio(x.w, x.t)
		same(t, found != "", e == api.OK)
		return e
	})
}

func TestNearestOfTheChapter(t *testing.T) {
	for _, example := range []struct {
		w      []int
		x      api.Rat
		wanted works.Train
	}{
		{chapterGears().w, "5/6", train([]int{0, 3}, []int{1, 2})},
		{chapterGears().w, "1/2", train([]int{0}, []int{2})},
		{chapterGears().w, "100", train([]int{2, 3}, []int{0, 1})},
		{chapterGears().w, "1/100", train([]int{0, 1}, []int{2, 3})},
		{chapterGears().w[:3], "100", train([]int{2}, []int{0})},          // three wheels make no train of two drivers
		{[]int{60, 60, 60, 60}, "1", train([]int{0}, []int{1})},           // fewer wheels, and then the first ones
		{[]int{10, 20, 10, 20}, "2", train([]int{1}, []int{0})},           // 1 to 0, 1 to 2, 3 to 0 and 3 to 2
		{[]int{20, 20, 10, 10}, "4", train([]int{0, 1}, []int{2, 3})},     // one driver makes 2 at most
		{[]int{10, 20, 10, 20, 20}, "4", train([]int{1, 3}, []int{0, 2})}, // 1, 4 and 3, 4 as well
		{[]int{30, 10, 20}, "5/4", train([]int{0}, []int{2})},             // 3/2
		{[]int{30, 10, 20}, "7/4", train([]int{0}, []int{2})},             // 3/2 and 2 are equally near
		{[]int{10, 20, 30}, "7/4", train([]int{1}, []int{0})},             // here the first one is 2
		{[]int{8, 240}, "1000000000000/7", train([]int{1}, []int{0})},     // 30 is the greatest ratio of two wheels
		{[]int{8, 240}, "1/" + nines(600), train([]int{0}, []int{1})},     //
		{[]int{8, 240}, nines(600), train([]int{1}, []int{0})},            //
		{[]int{8, 240}, "901/60", train([]int{0}, []int{1})},              // in the middle of 1/30 and 30
		{[]int{240, 8}, "901/60", train([]int{0}, []int{1})},              //
		{[]int{8, 240}, nines(600) + "/" + ten(599), train([]int{0}, []int{1})},
		{[]int{8, 240, 9}, "16", train([]int{1}, []int{2})},
	} {
		tr, e := works.Nearest(example.w, example.x)
		sameResult(t, tr, e, example.wanted, api.OK, example)
	}
}

// The numbers are ratios of trains, those in the middle of two of them, and others.
func TestNearestOfMany(t *testing.T) {
	source := seeded()
	for _, w := range manyWheels() {
		list := allTrains(len(w))
		for i := range 8 {
			x := ratioIn(w, list[source.Intn(len(list))])
			switch i % 4 {
			case 1:
				x = over(plus(x, ratioIn(w, list[source.Intn(len(list))])), ratio(2, 1))
			case 2:
				x = positiveRat(source, 3)
			case 3:
				x = plus(x, over(ratio(1, 1), positiveRat(source, 300)))
			}
			if text, e := limited(x); e == api.OK {
				tr, e := works.Nearest(w, text)
				sameResult(t, tr, e, nearestIn(w, x), api.OK, w, x)
			}
		}
	}
}

func TestErrorsOfNearest(t *testing.T) {
	var numbers []fault[geared]
	for _, bad := range badNumbers() {
		numbers = append(numbers, fault[geared]{func(x *geared) { x.x = bad.text }, bad.e})
	}
	for _, bad := range []api.Rat{"0", "-1", "-1/7", "-" + nines(600)} {
		numbers = append(numbers, fault[geared]{func(x *geared) { x.x = bad }, api.ErrRange})
	}
	few := []fault[geared]{{func(x *geared) { x.w = nil }, api.ErrEmpty}, {func(x *geared) { x.w = []int{20} }, api.ErrEmpty}}
	checkFaults(t, chapterGears, together(faultsOfWheels(), numbers, few), func(x geared) api.Errno {
		tr, e := works.Nearest(x.w, x.x)
		same(t, len(tr.Drivers) > 0 || len(tr.Driven) > 0, e == api.OK)
		return e
	})
}

func TestConvergents(t *testing.T) {
	for _, example := range []struct {
		x      api.Rat
		wanted []api.Rat
	}{
		{"17/12", []api.Rat{"1", "3/2", "7/5", "17/12"}}, {"-1/2", []api.Rat{"-1", "-1/2"}}, {"0", []api.Rat{"0"}}, {"7", []api.Rat{"7"}}, {"-7", []api.Rat{"-7"}},
		{"1/2", []api.Rat{"0", "1/2"}}, {"2/3", []api.Rat{"0", "1", "2/3"}}, {"-1/3", []api.Rat{"-1", "0", "-1/3"}}, {"-5/3", []api.Rat{"-2", "-5/3"}}, {"-7/5", []api.Rat{"-2", "-1", "-3/2", "-7/5"}},
		{"355/113", []api.Rat{"3", "22/7", "355/113"}}, {nines(600), []api.Rat{nines(600)}}, {"-" + nines(600), []api.Rat{"-" + nines(600)}},
		{"1/" + nines(600), []api.Rat{"0", "1/" + nines(600)}}, {"-" + nines(600) + "/2", []api.Rat{"-5" + ten(599)[1:], "-" + nines(600) + "/2"}},
	} {
		list, e := works.Convergents(example.x)
		sameResult(t, list, e, example.wanted, api.OK, example)
	}
	for _, bad := range badNumbers() {
		list, e := works.Convergents(bad.text)
		sameResult(t, list, e, []api.Rat(nil), bad.e, bad)
	}
}

func TestConvergentsOfMany(t *testing.T) {
	source := seeded()
	for top := -40; top <= 40; top++ {
		for bottom := 1; bottom <= 20; bottom++ {
			x := ratio(top, bottom)
			list, e := works.Convergents(rat(x))
			sameResult(t, list, e, convergentsIn(x), api.OK, x)
		}
	}
	for i := range 60 {
		x := randomRat(source, 1+i)
		if i%2 == 0 {
			x.Neg(x)
		}
		list, e := works.Convergents(rat(x))
		sameResult(t, list, e, convergentsIn(x), api.OK, x)
	}
}

// The numbers with the most convergents: quotients of successive numbers of Fibonacci, here of all those with 600 digits.
func TestManyConvergents(t *testing.T) {
	a, b := big.NewInt(2), big.NewInt(3)
	count, tried := 2, 0 // those of 3/2 are 1 and 3/2
	for len(b.String()) <= 600 {
		if x := new(big.Rat).SetFrac(b, a); len(b.String()) == 600 {
			list, e := works.Convergents(rat(x))
			same(t, e, api.OK)
			same(t, []any{len(list), list[0], list[1], list[2], list[len(list)-1]}, []any{count, api.Rat("1"), api.Rat("2"), api.Rat("3/2"), rat(x)})
			tried++
		}
		a, b = b, new(big.Int).Add(a, b)
		count++
	}
	same(t, tried >= 4 && count > 2800, true, tried, count)
}
