package works_test

import (
	"testing"

	"becket/api"
	"becket/works"
)

// The tests of P9.5.

func TestMachinesOfTheChapter(t *testing.T) {
	x := chapterMachines()
	a, e := works.Spread(x.times, x.machines)
	sameResult(t, a, e, []int{0, 0, 1, 1, 1}, api.OK)
	load, e := works.CheckSpread(x.times, x.machines, a)
	sameResult(t, load, e, 6, api.OK)
	load, e = works.CheckSpread(x.times, x.machines, x.a)
	sameResult(t, load, e, 7, api.OK)
	bound, e := works.Bound(x.times, x.machines)
	sameResult(t, bound, e, 6, api.OK)
}

func TestCheckSpread(t *testing.T) {
	for _, x := range manyLoads(400, 32, 16) {
		load, e := works.CheckSpread(x.times, x.machines, x.a)
		sameResult(t, load, e, loadIn(x, x.a), api.OK, x)
	}
	load, e := works.CheckSpread(repeated(32, 1000000), 16, repeated(32, 15))
	sameResult(t, load, e, 32000000, api.OK)
	checkFaults(t, chapterMachines, faultsOfSpreads(), func(x loaded) api.Errno {
		load, e := works.CheckSpread(x.times, x.machines, x.a)
		same(t, load > 0, e == api.OK)
		return e
	})
}

func TestSpread(t *testing.T) {
	for _, example := range []struct {
		times    []int
		machines int
		wanted   []int
	}{
		{nil, 3, nil}, {[]int{7}, 16, []int{0}}, {[]int{0, 0, 0}, 2, []int{0, 0, 0}}, {[]int{0, 5, 0, 5}, 2, []int{0, 0, 0, 1}}, {[]int{1, 1, 5}, 3, []int{0, 0, 1}}, {[]int{5, 1, 1}, 3, []int{0, 1, 1}},
		{[]int{2, 3, 5}, 2, []int{0, 0, 1}}, {repeated(8, 1000000), 16, numbersTo(8)}, {repeated(8, 9), 1, repeated(8, 0)}, {[]int{8, 7, 6, 5, 4, 3, 2, 1}, 16, []int{0, 1, 2, 3, 4, 3, 2, 1}},
	} {
		a, e := works.Spread(example.times, example.machines)
		sameResult(t, a, e, example.wanted, api.OK, example)
	}
}

// The model tries all lists of machines, also those that do not begin with the first one.
func TestSpreadsOfMany(t *testing.T) {
	for _, x := range append(manyLoads(200, 4, 5), manyLoads(100, 5, 4)...) {
		a, e := works.Spread(x.times, x.machines)
		sameResult(t, a, e, spreadIn(x), api.OK, x)
	}
	for _, x := range manyLoads(100, 8, 3) {
		a, e := works.Spread(x.times, x.machines)
		sameResult(t, a, e, spreadIn(x), api.OK, x)
	}
	for _, x := range manyLoads(30, 3, 16) {
		a, e := works.Spread(x.times, x.machines)
		sameResult(t, a, e, spreadIn(x), api.OK, x)
	}
}

func TestBound(t *testing.T) {
	for _, example := range []struct {
		times            []int
		machines, wanted int
	}{
		{[]int{3, 3, 2, 2, 2}, 2, 6}, {[]int{9, 1}, 3, 9}, {nil, 1, 0}, {nil, 16, 0}, {[]int{0, 0}, 2, 0}, {[]int{1, 1, 1}, 2, 2}, {[]int{1, 1, 1, 1}, 2, 2}, {[]int{1, 1, 1}, 16, 1},
		{repeated(32, 1000000), 1, 32000000}, {repeated(32, 1000000), 15, 2133334}, {repeated(32, 1000000), 16, 2000000},
	} {
		bound, e := works.Bound(example.times, example.machines)
		sameResult(t, bound, e, example.wanted, api.OK, example)
	}
	for _, x := range manyLoads(400, 32, 16) {
		bound, e := works.Bound(x.times, x.machines)
		sameResult(t, bound, e, boundIn(x), api.OK, x)
	}
}

func TestErrorsOfMachines(t *testing.T) {
	checkFaults(t, chapterMachines, faultsOfTimes(), func(x loaded) api.Errno {
		bound, e := works.Bound(x.times, x.machines)
		same(t, bound > 0, e == api.OK)
		return e
	})
	many := fault[loaded]{func(x *loaded) { x.times = repeated(9, 1) }, api.ErrLimit}
	most := fault[loaded]{func(x *loaded) { x.times = repeated(32, 0) }, api.ErrLimit}
	checkFaults(t, chapterMachines, append(faultsOfTimes(), many, most), func(x loaded) api.Errno {
		a, e := works.Spread(x.times, x.machines)
		same(t, len(a) > 0, e == api.OK)
		return e
	})
}
