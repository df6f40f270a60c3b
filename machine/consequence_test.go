package machine_test

import (
	"math"
	"math/rand"
	"slices"
	"strconv"
	"testing"

	"becket/api"
	"becket/machine"
	"becket/number"
)

// The tests of P4.6, and of P1 for the package.

func TestAStepIsAPermutation(t *testing.T) {
	for _, m := range manyMachines() {
		perm, _ := machine.Perm(m)
		same(t, []any{len(perm), number.CheckPerm(perm)}, []any{4 * m.Gears, api.OK}, m)
	}
}

func TestARowWithoutSwitchesHasOnePath(t *testing.T) {
	for gears := 1; gears <= api.MaxGears; gears++ {
		for _, m := range []machine.Machine{row(gears), turned(row(gears))} {
			paths, _ := machine.Paths(m)
			same(t, []int{len(paths), len(paths[0])}, []int{1, 4 * gears}, m)
			period, _ := machine.Period(m)
			same(t, period, api.Rat(strconv.Itoa(4*gears)), m)
		}
	}
}

func TestCarriersThatNeverMeet(t *testing.T) {
	source := seeded()
	for _, m := range manyMachines() {
		l := acceptedLoad(source, m, 64)
		for range 10 {
			later, e := machine.Steps(m, l, source.Intn(1000000000))
			same(t, []any{e, machine.Accept(m, later)}, []any{api.OK, api.OK}, "begin anywhere on their way", m, l)
		}
		for carrier := range l {
			same(t, machine.Accept(m, withoutOne(l, carrier)), api.OK, "without one", m, l)
		}
		free, _ := machine.Free(m, l)
		same(t, len(free), 0, "none was left out", m, l)
	}
}

func TestOneCarrierLessMeetsNoEarlier(t *testing.T) {
	source := seeded()
	for range 500 {
		m := randomMachine(source, api.MaxGears)
		l := randomLoad(source, m, 1+source.Intn(5))
		steps, _, e := machine.Meet(m, l)
		for carrier := range l {
			fewer, _, less := machine.Meet(m, withoutOne(l, carrier))
			same(t, less == api.ErrNone || e == api.OK && fewer >= steps, true, m, l, carrier)
		}
	}
}

// woven returns the order after some steps by the letters of their word alone.
func woven(order, word []int) []int {
	order = slices.Clone(order)
	for _, letter := range word {
		at := max(letter, -letter) - 1
		order[at], order[at+1] = order[at+1], order[at]
	}
	return order
}

func TestTheWordSaysTheOrder(t *testing.T) {
	source := seeded()
	for range 300 {
		m := randomRow(source, 8)
		l := acceptedLoad(source, m, 12)
		order, _ := machine.Order(m, l)
		for n := range 20 {
			word, e := machine.Word(m, l, n)
			same(t, e, api.OK, m, l)
			later, _ := machine.Steps(m, l, n)
			wanted, e := machine.Order(m, later)
			sameResult(t, woven(order, word), e, wanted, api.OK, m, l, n)
			strands, _ := machine.Strands(m, l, n)
			for position, carrier := range order {
				same(t, wanted[strands[position]], carrier, m, l, n)
			}
		}
	}
}

func TestStepsOfTwoTimes(t *testing.T) {
	source := seeded()
	for range 300 {
		m := randomRow(source, 8)
		l := acceptedLoad(source, m, 6)
		first, second := source.Intn(15), source.Intn(15)
		middle, _ := machine.Steps(m, l, first)
		end, _ := machine.Steps(m, middle, second)
		both, _ := machine.Steps(m, l, first+second)
		same(t, end, both, m, l)
		wordOfFirst, _ := machine.Word(m, l, first)
		wordOfSecond, _ := machine.Word(m, middle, second)
		wordOfBoth, e := machine.Word(m, l, first+second)
		sameResult(t, slices.Concat(wordOfFirst, wordOfSecond), e, wordOfBoth, api.OK, m, l)
		strandsOfFirst, _ := machine.Strands(m, l, first)
		strandsOfSecond, _ := machine.Strands(m, middle, second)
		strandsOfBoth, _ := machine.Strands(m, l, first+second)
		composed, e := number.Compose(strandsOfFirst, strandsOfSecond)
		sameResult(t, composed, e, strandsOfBoth, api.OK, m, l)
	}
}

func TestAMirroredMachineWeavesTheMirrorImage(t *testing.T) {
	source := seeded()
	letters := 0
	for range 300 {
		m := randomRow(source, 8)
		l := acceptedLoad(source, m, 12)
		mirror, mirrored, e := machine.Mirrored(m, l)
		same(t, e, api.OK)
		word, _ := machine.Word(m, l, 20)
		negated, e := machine.Word(mirror, mirrored, 20)
		for i := range negated {
			negated[i] = -negated[i]
		}
		sameResult(t, negated, e, word, api.OK, m, l)
		letters += len(word)
		again, back, _ := machine.Mirrored(mirror, mirrored)
		sameMachine(t, again, m)
		same(t, back, l, m)
	}
	same(t, letters > 1000, true, letters)
}

func TestAMachineBackwardsLeadsBack(t *testing.T) {
	source := seeded()
	for _, m := range manyMachines() {
		l := randomLoad(source, m, source.Intn(10))
		n := source.Intn(1000000000)
		later, _ := machine.Steps(m, l, n)
		reverse, back, e := machine.Backwards(m, later)
		same(t, e, api.OK, m)
		back, _ = machine.Steps(reverse, back, n)
		_, wanted, _ := machine.Backwards(m, l)
		same(t, back, wanted, m, l, n)
		again, back, _ := machine.Backwards(reverse, back)
		sameMachine(t, again, m)
		same(t, back, l, m)
	}
}

func TestTextsAreReadAsPrinted(t *testing.T) {
	for _, m := range manyMachines() {
		text, e := machine.Print(m)
		same(t, e, api.OK, m)
		back, e := machine.Parse(text)
		same(t, e, api.OK, m, text)
		sameMachine(t, back, m)
		again, _ := machine.Print(back)
		same(t, again, text)
	}
}

// outcome is what a call returns: its other results, and its error.
type outcome struct {
	results []any
	e       api.Errno
}

// callAll calls each function of the package.
func callAll(m machine.Machine, l []int, n int) map[string]outcome {
	all := map[string]outcome{}
	add := func(name string, e api.Errno, results ...any) { all[name] = outcome{results, e} }
	add("CheckMachine", machine.CheckMachine(m))
	add("CheckLoad", machine.CheckLoad(m, l))
	add("Accept", machine.Accept(m, l))
	perm, e := machine.Perm(m)
	add("Perm", e, perm)
	paths, e := machine.Paths(m)
	add("Paths", e, paths)
	period, e := machine.Period(m)
	add("Period", e, period)
	steps, e := machine.Steps(m, l, n)
	add("Steps", e, steps)
	count, place, e := machine.Meet(m, l)
	add("Meet", e, count, place)
	free, e := machine.Free(m, l)
	add("Free", e, free)
	fill, e := machine.Fill(m)
	add("Fill", e, fill)
	order, e := machine.Order(m, l)
	add("Order", e, order)
	crossings, e := machine.Crossings(m, l)
	add("Crossings", e, crossings)
	word, e := machine.Word(m, l, n)
	add("Word", e, word)
	strands, e := machine.Strands(m, l, n)
	add("Strands", e, strands)
	mirror, mirrored, e := machine.Mirrored(m, l)
	add("Mirrored", e, mirror, mirrored)
	reverse, back, e := machine.Backwards(m, l)
	add("Backwards", e, reverse, back)
	text, e := machine.Print(m)
	add("Print", e, text)
	return all
}

// isNothing tells whether a result is the zero value of its type.
func isNothing(result any) bool {
	switch x := result.(type) {
	case machine.Machine:
		return !x.Ring && x.Gears == 0 && x.Turn == 0 && len(x.Switches) == 0
	case []int:
		return len(x) == 0
	case [][]int:
		return len(x) == 0
	case []machine.Crossing:
		return len(x) == 0
	}
	return slices.Contains([]any{0, "", api.Rat("")}, result)
}

// anyInt returns an integer that is mostly small.
func anyInt(source *rand.Rand) int {
	if source.Intn(12) == 0 {
		return []int{math.MinInt, math.MaxInt, 1 << 32, -1 << 31, 999999999}[source.Intn(5)]
	}
	return source.Intn(20) - 2
}

func anyInts(source *rand.Rand, most int) []int {
	var list []int
	for range source.Intn(most + 1) {
		list = append(list, anyInt(source))
	}
	return list
}

func TestAnyArguments(t *testing.T) {
	source := seeded()
	for range 10000 {
		m := randomMachine(source, api.MaxGears)
		if source.Intn(3) == 0 {
			m = machine.Machine{Ring: source.Intn(2) == 0, Gears: anyInt(source), Turn: source.Intn(3) - 1, Switches: anyInts(source, 3)}
		}
		l, n := anyInts(source, 4), anyInt(source)
		given, givenLoad := m, slices.Clone(l)
		given.Switches = slices.Clone(m.Switches)
		for name, got := range callAll(m, l, n) {
			if got.e != api.OK {
				same(t, slices.ContainsFunc(got.results, func(x any) bool { return !isNothing(x) }), false, name, got)
			}
		}
		same(t, []any{m, l}, []any{given, givenLoad}, "an argument was changed")
	}
}

func TestAnyTexts(t *testing.T) {
	source := seeded()
	readable := 0
	for range 20000 {
		text := []byte([]string{"row 4 + none", "ring 4 - 0,2", "row 16 - 3,9,15"}[source.Intn(3)])
		for range source.Intn(3) {
			text[source.Intn(len(text))] = "rowing none0123456789,+- \x00\xff"[source.Intn(27)]
		}
		m, e := machine.Parse(string(text))
		same(t, isNothing(m), e != api.OK, string(text))
		if e == api.OK {
			readable++
			back, _ := machine.Print(m)
			same(t, back, string(text))
		}
	}
	same(t, readable > 5000, true, readable)
}

// Arguments and results share no memory, and arguments are not changed.
func TestMemory(t *testing.T) {
	m, l := row(4, 2), append(make([]int, 0, 9), 0, 1)
	first := callAll(m, l, 0)
	wanted := func(name string) api.Errno {
		if name == "Meet" {
			return api.ErrNone
		}
		return api.OK
	}
	for name, got := range first {
		same(t, got.e, wanted(name), name)
	}
	for _, got := range first {
		for _, result := range got.results {
			switch x := result.(type) {
			case machine.Machine:
				clear(x.Switches)
			case []int:
				clear(x)
			case [][]int:
				for _, list := range x {
					clear(list[:cap(list)])
				}
			case []machine.Crossing:
				clear(x)
			}
		}
		sameMachine(t, m, row(4, 2))
		same(t, l[:3], []int{0, 1, 0}, "also behind the last one")
	}
	for name, got := range callAll(m, l, 0) {
		same(t, got.e, wanted(name), name)
	}
	fill, _ := machine.Fill(m)
	clear(fill)
	again, _ := machine.Fill(m)
	same(t, again, fillIn(m))
	a, _ := machine.Parse("ring 4 - 0,2")
	clear(a.Switches)
	b, _ := machine.Parse("ring 4 - 0,2")
	same(t, b.Switches, []int{0, 2})
}
