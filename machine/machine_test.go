package machine_test

import (
	"slices"
	"strconv"
	"testing"

	"becket/api"
	"becket/machine"
)

// The tests of P4.1.

func TestCheckMachine(t *testing.T) {
	for _, m := range manyMachines() {
		same(t, machine.CheckMachine(m), api.OK, m)
	}
	for _, bad := range badMachines() {
		same(t, machine.CheckMachine(bad.m), bad.e, bad.m.Ring, bad.m.Gears, bad.m.Turn, len(bad.m.Switches))
	}
}

func TestErrorsOfMachinesInTheirOrder(t *testing.T) {
	type given = machine.Machine
	checkFaults(t, func() given { return ring(4, 1, 3) }, []fault[given]{
		{func(m *given) { m.Gears = 17 }, api.ErrRange},
		{func(m *given) { m.Gears = 3 }, api.ErrMesh},
		{func(m *given) { m.Turn = 0 }, api.ErrRange},
		{func(m *given) { m.Switches = make([]int, 5) }, api.ErrMany},
		{func(m *given) { m.Switches = []int{4, 4} }, api.ErrUnknown},
		{func(m *given) { m.Switches = []int{2, 2, 7} }, api.ErrOrder},
	}, machine.CheckMachine)
}

func TestErrorsOfPaths(t *testing.T) {
	for _, bad := range badMachines() {
		perm, e := machine.Perm(bad.m)
		sameResult(t, perm, e, []int{}, bad.e, "Perm")
		paths, e := machine.Paths(bad.m)
		sameResult(t, paths, e, [][]int{}, bad.e, "Paths")
		period, e := machine.Period(bad.m)
		sameResult(t, period, e, api.Rat(""), bad.e, "Period")
	}
}

func TestPathsOfExamples(t *testing.T) {
	perm, e := machine.Perm(row(2))
	sameResult(t, perm, e, []int{1, 4, 3, 0, 7, 2, 5, 6}, api.OK)
	for _, example := range []struct {
		m      machine.Machine
		paths  [][]int
		period api.Rat
	}{
		{row(1), [][]int{{0, 1, 2, 3}}, "4"},
		{turned(row(1)), [][]int{{0, 3, 2, 1}}, "4"},
		{row(2), [][]int{{0, 1, 4, 7, 6, 5, 2, 3}}, "8"},
		{turned(row(2)), [][]int{{0, 3, 4, 5, 6, 7, 2, 1}}, "8"},
		{row(2, 1), [][]int{{0, 1, 2, 3}, {4, 7, 6, 5}}, "4"},
		{ring(2), [][]int{{0, 1, 4, 7}, {2, 3, 6, 5}}, "4"},
		{ring(2, 0), [][]int{{0, 1, 4, 7, 6, 5, 2, 3}}, "8"},
		{ring(2, 0, 1), [][]int{{0, 1, 2, 3}, {4, 7, 6, 5}}, "4"},
		{row(3, 2), [][]int{{0, 1, 4, 7, 6, 5, 2, 3}, {8, 9, 10, 11}}, "8"},
	} {
		paths, e := machine.Paths(example.m)
		sameResult(t, paths, e, example.paths, api.OK, example.m)
		period, e := machine.Period(example.m)
		sameResult(t, period, e, example.period, api.OK, example.m)
	}
	period, _ := machine.Period(row(16, 3, 7, 12)) // 3, 4, 5 and 4 gears
	same(t, period, api.Rat("240"))
}

func TestPathsOfMany(t *testing.T) {
	for _, m := range manyMachines() {
		perm, e := machine.Perm(m)
		sameResult(t, perm, e, stepsIn(m, identity(m), 1), api.OK, m)
		paths, e := machine.Paths(m)
		same(t, e, api.OK, m)
		var starts []int
		for _, path := range paths {
			starts = append(starts, path[0])
			same(t, slices.Min(path), path[0], m)
			for i, slot := range path {
				same(t, path[(i+1)%len(path)], stepIn(m, slot), m, slot)
			}
		}
		same(t, slices.IsSorted(starts), true, m)
		all := slices.Concat(paths...)
		slices.Sort(all)
		same(t, all, identity(m), m)
		period, e := machine.Period(m)
		sameResult(t, period, e, api.Rat(strconv.Itoa(periodIn(m))), api.OK, m)
	}
}
