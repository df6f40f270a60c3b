package works_test

import (
	"testing"

	"becket/api"
	"becket/works"
)

// The tests of P9.2.

func TestCheckBobbins(t *testing.T) {
	for _, x := range append(manyBobbins(100, 64, 600), wound{repeated[api.Rat](64, "0"), repeated[api.Rat](64, "1/"+nines(600))}) {
		same(t, works.CheckBobbins(x.lengths, x.uses), api.OK, x)
	}
	for _, example := range []struct {
		lengths, uses []api.Rat
		e             api.Errno
	}{
		{[]api.Rat{"1", "2/4", nines(601)}, []api.Rat{"1", "1", "1"}, api.ErrForm}, {[]api.Rat{"1", nines(601), "2/4"}, []api.Rat{"1", "1", "1"}, api.ErrLarge},
		{[]api.Rat{"1", "1", nines(601)}, []api.Rat{"x", "0", "1"}, api.ErrLarge}, {[]api.Rat{"1", "1", "-1"}, []api.Rat{"0", "1", "x"}, api.ErrForm},
		{[]api.Rat{"-1"}, []api.Rat{"x"}, api.ErrForm}, {[]api.Rat{"x"}, []api.Rat{nines(601)}, api.ErrForm}, {[]api.Rat{nines(601)}, []api.Rat{"x"}, api.ErrLarge},
		{[]api.Rat{"0"}, []api.Rat{"0"}, api.ErrRange}, {[]api.Rat{"0"}, []api.Rat{"1/7"}, api.OK},
	} {
		same(t, works.CheckBobbins(example.lengths, example.uses), example.e, example)
	}
	checkFaults(t, chapterBobbins, faultsOfBobbins(), func(x wound) api.Errno { return works.CheckBobbins(x.lengths, x.uses) })
}

func TestBobbinsOfTheChapter(t *testing.T) {
	x := chapterBobbins()
	run, e := works.Run(x.lengths, x.uses)
	sameResult(t, run, e, api.Rat("4"), api.OK)
	waste, e := works.Waste(x.lengths, x.uses)
	sameResult(t, waste, e, []api.Rat{"2", "2", "0"}, api.OK)
	loading, e := works.Loading(x.lengths, x.uses)
	sameResult(t, loading, e, []int{0, 1, 2}, api.OK)
	other := onCarriers(x, []int{1, 0, 2})
	run, e = works.Run(other.lengths, other.uses)
	sameResult(t, run, e, api.Rat("3"), api.OK)
}

func TestRunsOfMany(t *testing.T) {
	for _, x := range append(manyBobbins(300, 64, 30), manyBobbins(40, 6, 500)...) {
		wanted, code := limited(runIn(x))
		run, e := works.Run(x.lengths, x.uses)
		sameResult(t, run, e, wanted, code, x)
	}
}

func TestWastesOfMany(t *testing.T) {
	for _, x := range append(manyBobbins(200, 64, 30), manyBobbins(40, 6, 500)...) {
		var wanted []api.Rat
		code := api.OK
		for _, left := range wasteIn(x) {
			text, e := limited(left)
			if wanted = append(wanted, text); e != api.OK {
				code = e
			}
		}
		if code != api.OK {
			wanted = nil
		}
		waste, e := works.Waste(x.lengths, x.uses)
		sameResult(t, waste, e, wanted, code, x)
	}
}

func TestLargeRuns(t *testing.T) {
	for _, example := range []struct {
		lengths, uses []api.Rat
		run           api.Rat
		e             api.Errno
	}{
		{[]api.Rat{nines(600)}, []api.Rat{"1/10"}, "", api.ErrLarge}, {[]api.Rat{nines(599)}, []api.Rat{"1/10"}, nines(599) + "0", api.OK},
		{[]api.Rat{"1/" + nines(600)}, []api.Rat{"2"}, "", api.ErrLarge}, {[]api.Rat{"1/" + nines(600)}, []api.Rat{"1"}, "1/" + nines(600), api.OK},
		{[]api.Rat{nines(600), "7"}, []api.Rat{"1/10", "1"}, "7", api.OK}, {[]api.Rat{"0", nines(600)}, []api.Rat{nines(600), "1/10"}, "0", api.OK},
		{[]api.Rat{nines(600)}, []api.Rat{nines(600)}, "1", api.OK},
	} {
		run, e := works.Run(example.lengths, example.uses)
		sameResult(t, run, e, example.run, example.e, example)
	}
}

func TestLargeWastes(t *testing.T) {
	for _, example := range []struct {
		lengths, uses []api.Rat
		waste         []api.Rat
		e             api.Errno
	}{
		{[]api.Rat{nines(600)}, []api.Rat{"1/10"}, []api.Rat{"0"}, api.OK}, // the run has 601 digits
		{[]api.Rat{nines(600), nines(600)}, []api.Rat{"1/10", "1/20"}, []api.Rat{"0", halfOf(nines(600))}, api.OK},
		{[]api.Rat{"1/" + nines(600), "1"}, []api.Rat{"2", "2"}, []api.Rat{"0", "9" + nines(598) + "8/" + nines(600)}, api.OK},
		{[]api.Rat{"1/" + nines(600), "1/2"}, []api.Rat{"1", "2"}, nil, api.ErrLarge}, {[]api.Rat{"1/2", "1/" + nines(600)}, []api.Rat{"2", "1"}, nil, api.ErrLarge},
	} {
		waste, e := works.Waste(example.lengths, example.uses)
		sameResult(t, waste, e, example.waste, example.e, example)
	}
}

// halfOf returns the half of a number.
func halfOf(text api.Rat) api.Rat {
	return rat(over(value(text), ratio(2, 1)))
}

func TestLoadings(t *testing.T) {
	for _, example := range []struct {
		lengths, uses []api.Rat
		wanted        []int
	}{
		{[]api.Rat{"6", "10", "8"}, []api.Rat{"2", "1", "2"}, []int{1, 0, 2}}, {[]api.Rat{"0"}, []api.Rat{"1"}, []int{0}}, {[]api.Rat{"0", "5"}, []api.Rat{"1", "7"}, []int{0, 1}},
		{[]api.Rat{"1", "2", "3", "4"}, []api.Rat{"4", "3", "2", "1"}, []int{3, 2, 1, 0}}, {[]api.Rat{"4", "3", "2", "1"}, []api.Rat{"4", "3", "2", "1"}, []int{0, 1, 2, 3}},
		{[]api.Rat{"9", "1", "9", "9"}, []api.Rat{"1", "1", "2", "1"}, []int{0, 1, 2, 3}}, {[]api.Rat{"1", "9", "9", "9"}, []api.Rat{"2", "1", "2", "1"}, []int{1, 0, 2, 3}},
		{repeated[api.Rat](8, "3/7"), repeated[api.Rat](8, "1/9"), []int{0, 1, 2, 3, 4, 5, 6, 7}},
		{[]api.Rat{"1", "2", "3", "4", "5", "6", "7", "8"}, []api.Rat{"8", "7", "6", "5", "4", "3", "2", "1"}, []int{7, 6, 5, 4, 3, 2, 1, 0}},
		{[]api.Rat{nines(600), ten(599)}, []api.Rat{"1/" + nines(600), nines(600) + "/2"}, []int{1, 0}},
	} {
		loading, e := works.Loading(example.lengths, example.uses)
		sameResult(t, loading, e, example.wanted, api.OK, example)
	}
}

func TestLoadingsOfMany(t *testing.T) {
	for _, x := range append(manyBobbins(200, 5, 3), manyBobbins(60, 4, 600)...) {
		loading, e := works.Loading(x.lengths, x.uses)
		sameResult(t, loading, e, loadingIn(x), api.OK, x)
	}
	tried := 0
	for _, x := range manyBobbins(40, 8, 3) {
		if len(x.lengths) >= 7 {
			tried++
			loading, e := works.Loading(x.lengths, x.uses)
			sameResult(t, loading, e, loadingIn(x), api.OK, x)
		}
	}
	same(t, tried > 4, true, tried)
}

func TestErrorsOfBobbins(t *testing.T) {
	checkFaults(t, chapterBobbins, append(faultsOfBobbins(), fault[wound]{func(x *wound) { x.lengths[2], x.uses[2] = "1/"+nines(600), "2" }, api.ErrLarge}), func(x wound) api.Errno {
		run, e := works.Run(x.lengths, x.uses)
		same(t, run != "", e == api.OK)
		return e
	})
	checkFaults(t, chapterBobbins, append(faultsOfBobbins(), fault[wound]{func(x *wound) { x.lengths[2], x.lengths[1] = "1/"+nines(600), "1/7" }, api.ErrLarge}), func(x wound) api.Errno {
		waste, e := works.Waste(x.lengths, x.uses)
		same(t, len(waste) > 0, e == api.OK)
		return e
	})
	many := fault[wound]{func(x *wound) { x.lengths, x.uses = repeated[api.Rat](9, "1"), repeated[api.Rat](9, "1") }, api.ErrLimit}
	most := fault[wound]{func(x *wound) { x.lengths, x.uses = repeated[api.Rat](64, "0"), repeated[api.Rat](64, "1") }, api.ErrLimit}
	checkFaults(t, chapterBobbins, append(faultsOfBobbins(), many, most), func(x wound) api.Errno {
		loading, e := works.Loading(x.lengths, x.uses)
		same(t, len(loading) > 0, e == api.OK)
		return e
	})
}
