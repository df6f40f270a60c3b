package machine_test

import (
	"math"
	"slices"
	"testing"

	"becket/api"
	"becket/machine"
)

// The tests of P4.2 and P4.3.

func TestCheckLoad(t *testing.T) {
	source := seeded()
	for _, m := range manyMachines() {
		for _, count := range []int{0, 1, 2, 4 * m.Gears} {
			l := randomLoad(source, m, count)
			same(t, machine.CheckLoad(m, l), api.OK, m, l)
		}
	}
	for _, bad := range badLoads() {
		same(t, machine.CheckLoad(bad.m, bad.l), bad.e, bad.m.Gears, bad.m.Turn, len(bad.l))
	}
}

func TestErrorsOfLoads(t *testing.T) {
	for _, bad := range badLoads() {
		for _, n := range []int{0, -1, math.MaxInt} {
			l, e := machine.Steps(bad.m, bad.l, n)
			sameResult(t, l, e, []int{}, bad.e, "Steps")
		}
		steps, place, e := machine.Meet(bad.m, bad.l)
		same(t, []any{steps, place, e}, []any{0, 0, bad.e}, "Meet")
		same(t, machine.Accept(bad.m, bad.l), bad.e, "Accept")
		free, e := machine.Free(bad.m, bad.l)
		sameResult(t, free, e, []int{}, bad.e, "Free")
	}
}

func TestSteps(t *testing.T) {
	l, e := machine.Steps(row(2), []int{0, 4, 3}, 4)
	sameResult(t, l, e, []int{6, 2, 7}, api.OK)
	source := seeded()
	for _, m := range manyMachines() {
		l := randomLoad(source, m, source.Intn(12))
		for _, n := range []int{0, 1, 2, 7, periodIn(m) - 1, periodIn(m), source.Intn(1000)} {
			got, e := machine.Steps(m, l, n)
			sameResult(t, got, e, stepsIn(m, l, n), api.OK, m, l, n)
		}
		for _, n := range []int{999999999, 999999998, 123456789} {
			got, e := machine.Steps(m, l, n)
			sameResult(t, got, e, stepsIn(m, l, n%periodIn(m)), api.OK, m, l, n)
		}
		for _, n := range []int{-1, math.MinInt, 1000000000, math.MaxInt} {
			got, e := machine.Steps(m, l, n)
			sameResult(t, got, e, []int{}, api.ErrRange, m, n)
		}
	}
}

func TestMeetOfExamples(t *testing.T) {
	for _, example := range []struct {
		m            machine.Machine
		l            []int
		steps, place int
		e            api.Errno
	}{
		{row(2), []int{1, 5}, 1, 1, api.OK},
		{row(2), []int{5, 1}, 1, 1, api.OK},
		{row(2), []int{0, 6}, 2, 1, api.OK},
		{row(2), []int{0, 1}, 0, 0, api.ErrNone},
		{row(2), []int{2, 4}, 0, 1, api.OK},
		{row(2, 1), []int{2, 4}, 0, 1, api.OK}, // a place with a switch is shared, too
		{row(2, 1), []int{1, 5}, 1, 1, api.OK},
		{row(2, 1), []int{1, 6}, 0, 0, api.ErrNone},
		{row(2), nil, 0, 0, api.ErrNone},
		{row(1), []int{0, 1, 2, 3}, 0, 0, api.ErrNone},
		{row(2), []int{0, 6, 3}, 2, 1, api.OK},
		{ring(2), []int{0, 6}, 0, 0, api.OK},
		{ring(2), []int{2, 4}, 0, 1, api.OK},
		{ring(2), []int{4, 6, 2, 0}, 0, 0, api.OK}, // at both places at once
		{row(3), []int{4, 6, 2, 8}, 0, 1, api.OK},
		{row(3), []int{8, 6, 0}, 0, 2, api.OK},
	} {
		steps, place, e := machine.Meet(example.m, example.l)
		same(t, []any{steps, place, e}, []any{example.steps, example.place, example.e}, example.m, example.l)
		accepted := api.OK
		if example.e == api.OK {
			accepted = api.ErrMeet
		}
		same(t, machine.Accept(example.m, example.l), accepted, example.m, example.l)
	}
}

func TestMeetOfMany(t *testing.T) {
	source := seeded()
	never := 0
	for _, m := range manyMachines() {
		period := periodIn(m)
		for range 20 {
			l := randomLoad(source, m, source.Intn(6))
			wantedSteps, wantedPlace, code := meetIn(m, l, period)
			steps, place, e := machine.Meet(m, l)
			same(t, []any{steps, place, e}, []any{wantedSteps, wantedPlace, code}, m, l)
			accepted := api.ErrMeet
			if code == api.ErrNone {
				never++
				accepted = api.OK
			}
			same(t, machine.Accept(m, l), accepted, m, l)
		}
		l := acceptedLoad(source, m, 64)
		same(t, neverMeetIn(m, l), true, m, l)
	}
	same(t, never > 500, true, never)
}

// Carriers on paths of different lengths may meet only after many rounds.
func TestMeetAfterManySteps(t *testing.T) {
	m := row(9, 4) // 4 gears, and 5
	latest := 0
	for slot := range 16 {
		l := []int{slot, 16}
		wantedSteps, wantedPlace, code := meetIn(m, l, 80)
		steps, place, e := machine.Meet(m, l)
		same(t, []any{steps, place, e}, []any{wantedSteps, wantedPlace, code}, l)
		latest = max(latest, steps)
	}
	same(t, latest > 40, true, latest)
}

func TestFree(t *testing.T) {
	for _, example := range []struct {
		m          machine.Machine
		l, slots   []int
		wantedCode api.Errno
	}{
		{row(2), []int{0, 1, 2}, []int{3, 7}, api.OK},
		{row(2), []int{0, 1, 2, 3}, nil, api.OK},
		{row(1), nil, []int{0, 1, 2, 3}, api.OK},
		{row(1), []int{3, 1}, []int{0, 2}, api.OK},
		{row(1), []int{3, 1, 0, 2}, nil, api.OK},
		{row(2), []int{0, 6}, nil, api.ErrMeet},
		{row(2), []int{2, 4}, nil, api.ErrMeet},
	} {
		slots, e := machine.Free(example.m, example.l)
		sameResult(t, slots, e, example.slots, example.wantedCode, example.m, example.l)
	}
	source := seeded()
	for _, m := range manyMachines() {
		for _, l := range [][]int{nil, randomLoad(source, m, 1), randomLoad(source, m, 2), acceptedLoad(source, m, source.Intn(2*m.Gears))} {
			code := api.ErrMeet
			var wanted []int
			if neverMeetIn(m, l) {
				code = api.OK
				for slot := range 4 * m.Gears {
					if !slices.Contains(l, slot) && neverMeetIn(m, append(slices.Clone(l), slot)) {
						wanted = append(wanted, slot)
					}
				}
			}
			slots, e := machine.Free(m, l)
			sameResult(t, slots, e, wanted, code, m, l)
		}
	}
}

// fillIn returns the lexicographically first one of the greatest loads, by trying all sets of slots.
func fillIn(m machine.Machine) []int {
	slots := 4 * m.Gears
	meets := make([]int, slots) // for each slot, the set of those that it must not be together with
	for a := range slots {
		for b := range slots {
			if a != b && !neverMeetIn(m, []int{a, b}) {
				meets[a] |= 1 << b
			}
		}
	}
	var best []int
	for set := range 1 << slots {
		var load []int
		met := 0
		for slot := range slots {
			if set>>slot&1 == 1 {
				load = append(load, slot)
				met |= meets[slot]
			}
		}
		if met&set == 0 && (len(load) > len(best) || len(load) == len(best) && slices.Compare(load, best) < 0) {
			best = load
		}
	}
	return best
}

func TestFill(t *testing.T) {
	l, e := machine.Fill(row(2))
	sameResult(t, l, e, []int{0, 1, 2, 3}, api.OK)
	l, e = machine.Fill(row(1))
	sameResult(t, l, e, []int{0, 1, 2, 3}, api.OK)
	for _, m := range append(smallMachines(3), row(4), turned(row(4, 2)), row(4, 1, 2, 3), ring(4), ring(4, 1), turned(ring(4, 0, 1, 2, 3)), ring(4, 0, 3)) {
		l, e := machine.Fill(m)
		sameResult(t, l, e, fillIn(m), api.OK, m)
	}
	for _, m := range smallMachines(4) {
		l, e := machine.Fill(m)
		same(t, []any{e, machine.Accept(m, l), slices.IsSorted(l)}, []any{api.OK, api.OK, true}, m)
		free, _ := machine.Free(m, l)
		same(t, len(free), 0, m)
	}
}

func TestErrorsOfFill(t *testing.T) {
	for _, m := range []machine.Machine{row(5), row(16), ring(6), ring(16), turned(row(5, 4))} {
		l, e := machine.Fill(m)
		sameResult(t, l, e, []int{}, api.ErrLimit, m)
	}
	for _, bad := range badMachines() {
		l, e := machine.Fill(bad.m)
		sameResult(t, l, e, []int{}, bad.e, bad.m.Gears)
	}
	same(t, machine.Exact, 4)
}
