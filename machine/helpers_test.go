package machine_test

import (
	"math"
	"math/rand"
	"reflect"
	"slices"
	"testing"

	"becket/api"
	"becket/machine"
)

// The tests use the exported functions of the package alone, and compare with a plain model of single carriers.

// same fails the test if a result is not the wanted one; nil and empty slices are equivalent.
func same(t *testing.T, got, wanted any, what ...any) {
	t.Helper()
	g, w := reflect.ValueOf(got), reflect.ValueOf(wanted)
	if g.Kind() == reflect.Slice && g.Len() == 0 && w.Kind() == reflect.Slice && w.Len() == 0 {
		return
	}
	if !reflect.DeepEqual(got, wanted) {
		t.Errorf("%v: got %v, want %v", what, got, wanted)
	}
}

// sameResult fails the test if a list and its error are not those of a result.
func sameResult(t *testing.T, got any, e api.Errno, wanted any, code api.Errno, what ...any) {
	t.Helper()
	same(t, e, code, what...)
	same(t, got, wanted, what...)
}

// sameMachine compares machines; nil and empty lists are equivalent.
func sameMachine(t *testing.T, got, wanted machine.Machine, what ...any) {
	t.Helper()
	same(t, got.Switches, wanted.Switches, what...)
	got.Switches, wanted.Switches = nil, nil
	same(t, got, wanted, what...)
}

// seeded returns a source of numbers that is the same in each run.
func seeded() *rand.Rand {
	return rand.New(rand.NewSource(39373))
}

// fault makes something wrong, so that the error has to be returned.
type fault[T any] struct {
	make func(x *T)
	e    api.Errno
}

// checkFaults fails the test for each fault, in the order of their errors, that does not decide alone, or together with
// one that comes after it.
func checkFaults[T any](t *testing.T, good func() T, faults []fault[T], check func(x T) api.Errno) {
	t.Helper()
	same(t, check(good()), api.OK, "without a fault")
	for i, first := range faults {
		for k, later := range faults[i:] {
			x := good()
			later.make(&x)
			first.make(&x) // the last one, for it may overwrite what the later one made
			same(t, check(x), first.e, "fault", i, "before", i+k)
		}
	}
}

// row and ring return machines with the turn 1.
func row(gears int, switches ...int) machine.Machine {
	return machine.Machine{Gears: gears, Turn: 1, Switches: switches}
}

func ring(gears int, switches ...int) machine.Machine {
	return machine.Machine{Ring: true, Gears: gears, Turn: 1, Switches: switches}
}

// turned returns the machine with the turn -1.
func turned(m machine.Machine) machine.Machine {
	m.Turn = -1
	return m
}

// smallMachines returns all machines with up to so many gears.
func smallMachines(most int) []machine.Machine {
	var list []machine.Machine
	for gears := 1; gears <= most; gears++ {
		for choice := range 1 << gears {
			var switches []int
			for place := range gears {
				if choice>>place&1 == 1 {
					switches = append(switches, place)
				}
			}
			if gears%2 == 0 {
				list = append(list, ring(gears, switches...), turned(ring(gears, switches...)))
			}
			if choice&1 == 0 {
				list = append(list, row(gears, switches...), turned(row(gears, switches...)))
			}
		}
	}
	return list
}

// randomMachine returns a machine with up to so many gears.
func randomMachine(source *rand.Rand, most int) machine.Machine {
	m := machine.Machine{Gears: 1 + source.Intn(most), Turn: 2*source.Intn(2) - 1}
	m.Ring = m.Gears%2 == 0 && source.Intn(2) == 0
	often := 1 + source.Intn(6)
	for place := range m.Gears {
		if (place > 0 || m.Ring) && source.Intn(often) == 0 {
			m.Switches = append(m.Switches, place)
		}
	}
	return m
}

// randomRow returns a row with up to so many gears.
func randomRow(source *rand.Rand, most int) machine.Machine {
	for {
		if m := randomMachine(source, most); !m.Ring {
			return m
		}
	}
}

// manyMachines returns the small machines, the greatest ones, and some others.
func manyMachines() []machine.Machine {
	all := []int{1, 2, 3, 4, 5, 6, 7, 8, 9, 10, 11, 12, 13, 14, 15}
	list := append(smallMachines(4), row(16), turned(row(16)), row(15), ring(16), turned(ring(16)), row(16, all...), ring(16, append([]int{0}, all...)...),
		row(16, 1, 3, 6, 10), row(12, 3, 7), ring(16, 0), ring(16, 15), ring(16, 7, 8))
	source := seeded()
	for range 100 {
		list = append(list, randomMachine(source, api.MaxGears))
	}
	return list
}

// randomLoad returns the slots of so many carriers, or of fewer ones if there are not as many slots.
func randomLoad(source *rand.Rand, m machine.Machine, count int) []int {
	return source.Perm(4 * m.Gears)[:min(count, 4*m.Gears)]
}

// acceptedLoad returns the slots of up to so many carriers that never meet.
func acceptedLoad(source *rand.Rand, m machine.Machine, most int) []int {
	var l []int
	for _, slot := range source.Perm(4 * m.Gears) {
		longer := append(slices.Clone(l), slot)
		if len(longer) <= most && machine.Accept(m, longer) == api.OK {
			l = longer
		}
	}
	return l
}

// withoutOne returns a list without the element at an index.
func withoutOne(list []int, index int) []int {
	return slices.Delete(slices.Clone(list), index, index+1)
}

// badMachine is a machine with its error.
type badMachine struct {
	m machine.Machine
	e api.Errno
}

// badMachines returns machines with each error.
func badMachines() []badMachine {
	return []badMachine{
		{machine.Machine{}, api.ErrRange}, {row(0), api.ErrRange}, {row(-1), api.ErrRange}, {row(17), api.ErrRange}, {row(math.MaxInt), api.ErrRange},
		{row(math.MinInt), api.ErrRange}, {ring(18), api.ErrRange}, {ring(0), api.ErrRange}, {ring(-2), api.ErrRange}, {ring(17), api.ErrRange},
		{ring(1), api.ErrMesh}, {ring(3), api.ErrMesh}, {ring(15), api.ErrMesh},
		{machine.Machine{Gears: 2}, api.ErrRange}, {machine.Machine{Gears: 2, Turn: 2}, api.ErrRange}, {machine.Machine{Gears: 2, Turn: -2}, api.ErrRange},
		{machine.Machine{Gears: 2, Turn: math.MinInt}, api.ErrRange},
		{row(2, 1, 1, 1), api.ErrMany}, {ring(2, 0, 1, 2), api.ErrMany}, {row(1, make([]int, 100000)...), api.ErrMany},
		{row(1, 0), api.ErrUnknown}, {row(1, 1), api.ErrUnknown}, {row(2, 0), api.ErrUnknown}, {row(2, 2), api.ErrUnknown}, {row(2, 1, 2), api.ErrUnknown},
		{row(2, -1), api.ErrUnknown}, {row(2, math.MaxInt), api.ErrUnknown}, {row(2, math.MinInt), api.ErrUnknown}, {ring(2, 2), api.ErrUnknown},
		{ring(2, -1), api.ErrUnknown}, {row(16, 16), api.ErrUnknown}, {ring(16, 16), api.ErrUnknown}, {row(4, 2, 0), api.ErrUnknown},
		{row(4, 1, 4, 1), api.ErrUnknown},
		{row(4, 1, 1), api.ErrOrder}, {row(4, 2, 1), api.ErrOrder}, {ring(4, 0, 0), api.ErrOrder}, {ring(4, 1, 0), api.ErrOrder}, {row(4, 1, 3, 2), api.ErrOrder},
		{row(4, 2, 1, 9), api.ErrOrder}, {ring(4, 3, 3, -1, 5), api.ErrOrder},
	}
}

// badLoad is a machine and a load with its error.
type badLoad struct {
	m machine.Machine
	l []int
	e api.Errno
}

// badLoads returns loads with each error.
func badLoads() []badLoad {
	list := []badLoad{
		{row(1), []int{0, 1, 2, 3, 0}, api.ErrMany}, {row(1), []int{9, 9, 9, 9, 9}, api.ErrMany}, {row(16), make([]int, 65), api.ErrMany},
		{row(2), make([]int, 100000), api.ErrMany},
		{row(1), []int{4}, api.ErrUnknown}, {row(1), []int{-1}, api.ErrUnknown}, {row(2), []int{0, 8}, api.ErrUnknown}, {row(2), []int{0, -1, 0}, api.ErrUnknown},
		{ring(2), []int{7, 8, 8}, api.ErrUnknown}, {row(16), []int{64}, api.ErrUnknown}, {row(3), []int{math.MinInt}, api.ErrUnknown},
		{row(3), []int{math.MaxInt}, api.ErrUnknown}, {row(2), []int{-1, -1}, api.ErrUnknown},
		{row(1), []int{0, 0}, api.ErrTwice}, {row(2), []int{5, 3, 5}, api.ErrTwice}, {row(2), []int{1, 1, 8}, api.ErrTwice}, {ring(2), []int{6, 0, 6, 0}, api.ErrTwice},
		{row(16), make([]int, 64), api.ErrTwice},
	}
	for _, bad := range badMachines() {
		list = append(list, badLoad{bad.m, nil, bad.e}, badLoad{bad.m, []int{-1, -1}, bad.e}, badLoad{bad.m, make([]int, 100), bad.e})
	}
	return list
}
