package pattern_test

import (
	"math"
	"math/rand"
	"reflect"
	"slices"
	"testing"

	"becket/api"
	"becket/pattern"
)

// The tests of P6.7, and of P1 for the package.

func TestAPlacingOrAClash(t *testing.T) {
	source := seeded()
	makings := manyMakings(source)
	for range 300 {
		n := 2 + source.Intn(11)
		s := scheme{n, randomWord(source, n, 1+source.Intn(24))}
		p := paintIn(s, randomPicture(source, 1, n, 8)[0], 1+source.Intn(24))
		if source.Intn(2) == 0 {
			p[source.Intn(len(p))][source.Intn(len(s.w))] = source.Intn(8)
		}
		makings = append(makings, making{s, p})
	}
	found := map[bool]int{}
	for _, m := range makings {
		clash, e := pattern.Clash(m.n, m.w, m.p)
		placing, faults, _ := pattern.Closest(m.n, m.w, m.p)
		p, _ := pattern.Paint(m.n, m.w, placing, len(m.p))
		same(t, faults, faultsIn(p, m.p), m)
		same(t, faults == 0, e == api.ErrNone, m)
		found[e == api.OK]++
		if e == api.OK {
			same(t, pattern.CheckClash(m.n, m.w, m.p, clash), api.OK, m)
			continue
		}
		same(t, p, m.p, m)
		list, _ := pattern.Placings(m.n, m.w, m.p)
		same(t, slices.ContainsFunc(list, func(l []int) bool { return slices.Equal(l, placing) }), true, m)
	}
	same(t, found[true] > 200 && found[false] > 200, true, found)
}

func TestPlacingsOfShifts(t *testing.T) {
	source := seeded()
	for _, m := range manyMakings(source) {
		shifted, _ := pattern.Shifted(m.p, source.Intn(100)-50, source.Intn(100)-50)
		list, e := pattern.Placings(m.n, m.w, m.p)
		again, other := pattern.Placings(m.n, m.w, shifted)
		sameResult(t, again, other, list, e, m)
		for _, placing := range list {
			p, _ := pattern.Paint(m.n, m.w, placing, len(m.p))
			is, _ := pattern.Same(p, m.p)
			same(t, is, true, m, placing)
		}
	}
}

func TestAMovedPlacingIsOneRowLater(t *testing.T) {
	source := seeded()
	for _, s := range manySchemes() {
		placing := randomPicture(source, 1, s.n, 8)[0]
		moved, _ := pattern.Moved(s.n, s.w, placing)
		p, _ := pattern.Paint(s.n, s.w, placing, 24)
		q, _ := pattern.Paint(s.n, s.w, moved, 23)
		same(t, q, p[1:], s, placing)
		before, _ := pattern.Repeat(s.n, s.w, placing)
		after, _ := pattern.Repeat(s.n, s.w, moved)
		same(t, after, before, s, placing)
	}
}

func TestClassesAddUp(t *testing.T) {
	source := seeded()
	for range 60 {
		n := 2 + source.Intn(5)
		s := scheme{n, randomWord(source, n, 1+source.Intn(24))}
		for colours := 1; colours <= 3; colours++ {
			classes, e := pattern.Classes(s.n, s.w, colours)
			same(t, e, api.OK, s)
			list, _ := pattern.Listed(s.n, s.w, colours)
			same(t, len(list), classes, s, colours)
			sum := 0
			for _, bobbins := range placingsOf(colours, n+1) { // all lists of numbers from 0 to n
				if count, e := pattern.Counted(s.n, s.w, bobbins); e == api.OK {
					sum += count
				}
			}
			same(t, sum, classes, s, colours)
		}
	}
}

func TestShiftsAddUp(t *testing.T) {
	for _, p := range manyPictures() {
		if len(p) == 24 && len(p[0]) == 24 {
			continue // one picture has too many pairs of shifts
		}
		list, _ := pattern.Shifts(p)
		for _, a := range list {
			q, _ := pattern.Shifted(p, a[0], a[1])
			same(t, q, p, a)
			for _, b := range list {
				sum := [2]int{(a[0] + b[0]) % len(p), (a[1] + b[1]) % len(p[0])}
				same(t, slices.Contains(list, sum), true, p, a, b)
			}
		}
	}
}

func TestPicturesAreReadAsPrinted(t *testing.T) {
	for _, p := range manyPictures() {
		text, e := pattern.Print(p)
		same(t, e, api.OK, p)
		back, line, e := pattern.Parse(text)
		sameResult(t, back, e, p, api.OK, text)
		same(t, line, 0, text)
		again, _ := pattern.Print(back)
		same(t, again, text)
	}
}

// call is the arguments of a call of each function.
type call struct {
	scheme
	colours, bobbins []int
	p, q             [][]int
	by, other        int
	cells            [2][2]int
	text             string
}

// outcome is what a call returns: its other results, and its error.
type outcome struct {
	results []any
	e       api.Errno
}

// callAll calls each function of the package.
func callAll(x call) map[string]outcome {
	all := map[string]outcome{}
	add := func(name string, e api.Errno, results ...any) { all[name] = outcome{results, e} }
	add("CheckScheme", pattern.CheckScheme(x.n, x.w))
	add("CheckPlacing", pattern.CheckPlacing(x.n, x.colours))
	add("CheckPicture", pattern.CheckPicture(x.p))
	add("CheckClash", pattern.CheckClash(x.n, x.w, x.p, x.cells))
	pictures := map[string]func() ([][]int, api.Errno){
		"Seen":     func() ([][]int, api.Errno) { return pattern.Seen(x.n, x.w, x.by) },
		"Paint":    func() ([][]int, api.Errno) { return pattern.Paint(x.n, x.w, x.colours, x.by) },
		"Shifted":  func() ([][]int, api.Errno) { return pattern.Shifted(x.p, x.by, x.other) },
		"Normal":   func() ([][]int, api.Errno) { return pattern.Normal(x.p) },
		"Placings": func() ([][]int, api.Errno) { return pattern.Placings(x.n, x.w, x.p) },
		"Listed":   func() ([][]int, api.Errno) { return pattern.Listed(x.n, x.w, x.by) },
	}
	for name, function := range pictures {
		p, e := function()
		add(name, e, p)
	}
	numbers := map[string]func() (int, api.Errno){
		"Period":  func() (int, api.Errno) { return pattern.Period(x.n, x.w) },
		"Repeat":  func() (int, api.Errno) { return pattern.Repeat(x.n, x.w, x.colours) },
		"Slope":   func() (int, api.Errno) { return pattern.Slope(x.p) },
		"Classes": func() (int, api.Errno) { return pattern.Classes(x.n, x.w, x.by) },
		"Counted": func() (int, api.Errno) { return pattern.Counted(x.n, x.w, x.bobbins) },
	}
	for name, function := range numbers {
		number, e := function()
		add(name, e, number)
	}
	periods, e := pattern.Periods(x.p)
	add("Periods", e, periods)
	shifts, e := pattern.Shifts(x.p)
	add("Shifts", e, shifts)
	is, e := pattern.Same(x.p, x.q)
	add("Same", e, is)
	cells, e := pattern.Cells(x.p)
	add("Cells", e, cells)
	clash, e := pattern.Clash(x.n, x.w, x.p)
	add("Clash", e, clash)
	closest, faults, e := pattern.Closest(x.n, x.w, x.p)
	add("Closest", e, closest, faults)
	moved, e := pattern.Moved(x.n, x.w, x.colours)
	add("Moved", e, moved)
	text, e := pattern.Print(x.p)
	add("Print", e, text)
	picture, line, e := pattern.Parse(x.text)
	if e == api.ErrSyntax {
		line = 0 // which it is then alone
	}
	add("Parse", e, picture, line)
	return all
}

// takesPictureFirst tells whether a picture is the first argument of a function, takesScheme whether a scheme is.
func takesPictureFirst(name string) bool {
	return slices.Contains([]string{"CheckPicture", "Shifted", "Periods", "Shifts", "Normal", "Same", "Slope", "Cells", "Print"}, name)
}

func takesScheme(name string) bool {
	return !takesPictureFirst(name) && name != "CheckPlacing" && name != "Parse"
}

// isNothing tells whether a result is the zero value of its type.
func isNothing(result any) bool {
	value := reflect.ValueOf(result)
	if value.Kind() == reflect.Slice {
		return value.Len() == 0
	}
	return value.IsZero()
}

// anyInt returns an integer that is mostly small.
func anyInt(source *rand.Rand) int {
	if source.Intn(40) == 0 {
		return []int{math.MinInt, math.MaxInt, 1 << 32, -1 << 31, 25}[source.Intn(5)]
	}
	return source.Intn(7) - 2
}

func anyInts(source *rand.Rand, most int) []int {
	var list []int
	for range source.Intn(most + 1) {
		list = append(list, anyInt(source))
	}
	return list
}

func anyRows(source *rand.Rand) [][]int {
	var rows [][]int
	for range source.Intn(4) {
		rows = append(rows, anyInts(source, 3))
	}
	return rows
}

// anyCall returns arguments of any form, or such that are mostly without errors.
func anyCall(source *rand.Rand) call {
	x := call{
		scheme: scheme{anyInt(source), anyInts(source, 4)}, colours: anyInts(source, 5), bobbins: anyInts(source, 5), p: anyRows(source), q: anyRows(source),
		by: anyInt(source), other: anyInt(source), text: []string{"", "a\n", "ab\nb\n", "ab\nba\n", "x\n", "ab"}[source.Intn(6)],
		cells: [2][2]int{{anyInt(source), anyInt(source)}, {anyInt(source), anyInt(source)}},
	}
	if source.Intn(2) == 0 {
		x.n = 2 + source.Intn(4)
		x.w = randomWord(source, x.n, 1+source.Intn(3))
		x.colours = randomPicture(source, 1, x.n, 8)[0]
		x.bobbins = bobbinsOf(randomPicture(source, 1, x.n, 3)[0], 3)
		x.p = randomPicture(source, 1+source.Intn(2), len(x.w), 2)
		x.q = randomPicture(source, 1+source.Intn(3), 1+source.Intn(3), 2)
		x.cells = [2][2]int{{0, 0}, {source.Intn(2), source.Intn(3)}}
	}
	return x
}

// cloned returns arguments that share no memory with these.
func cloned(x call) call {
	x.w, x.colours, x.bobbins = slices.Clone(x.w), slices.Clone(x.colours), slices.Clone(x.bobbins)
	x.p, x.q = clonedRows(x.p), clonedRows(x.q)
	return x
}

// sameArguments fails the test if arguments are not what they were.
func sameArguments(t *testing.T, got, wanted call, what ...any) {
	t.Helper()
	same(t, []any{got.w, got.colours, got.bobbins, got.p, got.q}, []any{wanted.w, wanted.colours, wanted.bobbins, wanted.p, wanted.q}, what...)
}

func TestAnyArguments(t *testing.T) {
	source := seeded()
	good := map[string]int{}
	for range 5000 {
		x := anyCall(source)
		given := cloned(x)
		for name, got := range callAll(x) {
			if got.e == api.OK {
				good[name]++
			} else {
				same(t, slices.ContainsFunc(got.results, func(x any) bool { return !isNothing(x) }), false, name, got)
			}
		}
		sameArguments(t, x, given, "an argument was changed")
	}
	for name := range callAll(call{}) {
		same(t, good[name] > 10, true, name, good[name])
	}
}

func TestDeterminism(t *testing.T) {
	source := seeded()
	for range 500 {
		x := anyCall(source)
		first := callAll(x)
		for name, got := range callAll(cloned(x)) {
			sameResult(t, got.results, got.e, first[name].results, first[name].e, name, x)
		}
	}
}

// goodCall returns arguments without errors, with room behind the last elements of lists.
func goodCall() call {
	roomy := func(list ...int) []int { return append(make([]int, 0, 9), list...) }
	return call{
		scheme: scheme{3, roomy(1, -2)}, colours: roomy(0, 1, 1), bobbins: roomy(1, 2), by: 3, other: 0, text: "ab\nba\n",
		p: append(make([][]int, 0, 9), roomy(0, 0), roomy(0, 0), roomy(0, 0)), q: [][]int{roomy(0, 1)}, cells: [2][2]int{{0, 0}, {1, 1}},
	}
}

// wipe changes all memory of a result, also behind the last elements of lists.
func wipe(result any) {
	switch x := result.(type) {
	case []int:
		clear(x[:cap(x)])
		for i := range x {
			x[i] = -7
		}
	case [][]int:
		for _, list := range x {
			wipe(list)
		}
		clear(x[:cap(x)])
	case [][2]int:
		clear(x[:cap(x)])
	}
}

// Arguments and results share no memory, nor do two results, nor the lists of one result.
func TestMemory(t *testing.T) {
	wanted := callAll(goodCall())
	for name, got := range wanted {
		code := map[string]api.Errno{"Clash": api.ErrNone, "CheckClash": api.ErrProof}[name]
		same(t, got.e, code, name)
	}
	x := goodCall()
	for name := range wanted {
		first := callAll(x)
		for _, result := range first[name].results {
			wipe(result)
		}
		sameArguments(t, x, goodCall(), name)
		for _, list := range append(slices.Clone(x.p), x.w, x.colours, x.bobbins, x.q[0]) {
			same(t, slices.Max(list[len(list):cap(list)]), 0, "behind the last one", name)
			same(t, slices.Min(list[len(list):cap(list)]), 0, "behind the last one", name)
		}
		for other, got := range first {
			if other != name {
				sameResult(t, got.results, got.e, wanted[other].results, wanted[other].e, name, other)
			}
		}
	}
}

func TestListsOfAResultAreSeparate(t *testing.T) {
	for _, name := range []string{"Seen", "Paint", "Shifted", "Normal", "Placings", "Listed", "Parse"} {
		x := goodCall()
		if name == "Placings" {
			x.p = chapterPicture()
		}
		lists, wanted := callAll(x)[name].results[0].([][]int), callAll(x)[name].results[0].([][]int)
		same(t, len(lists) > 1, true, name)
		for i := range lists {
			wipe(lists[i])
			for k := i + 1; k < len(lists); k++ {
				same(t, lists[k], wanted[k], name, i, k)
			}
		}
		for i := range wanted {
			_ = append(wanted[i], 99)
		}
		again := callAll(x)[name].results[0].([][]int)
		same(t, wanted, again, name)
	}
}

func TestHugeArguments(t *testing.T) {
	huge := make([]int, 1<<20)
	for name, got := range callAll(call{scheme: scheme{3, huge}, colours: huge, bobbins: huge, p: repeated(1<<20, huge), text: string(make([]byte, 1<<20))}) {
		switch {
		case name == "CheckPlacing":
			same(t, got.e, api.ErrShape, name)
		case name == "Parse":
			same(t, got.e, api.ErrLong, name)
		default:
			same(t, got.e, api.ErrMany, name)
		}
	}
}

// The greatest arguments, and each function with them.
func TestGreatArguments(t *testing.T) {
	x := call{
		scheme: scheme{12, repeated(24, 11)}, colours: repeated(12, 7), bobbins: []int{2, 2, 2, 2, 1, 1, 1, 1}, by: 24, other: 24,
		p: repeated(24, repeated(24, 7)), q: repeated(24, repeated(24, 7)), cells: [2][2]int{{0, 0}, {23, 23}}, text: "a\n",
	}
	x.p[23] = append(repeated(23, 7), 6)
	for name, got := range callAll(x) {
		code := map[string]api.Errno{"Placings": api.ErrNone, "Slope": api.ErrNone, "Classes": api.ErrRange, "Listed": api.ErrRange}[name]
		if name == "CheckClash" {
			code = pattern.CheckClash(12, x.w, x.p, [2][2]int{{23, 23}, {0, 0}})
		}
		same(t, got.e, code, name)
	}
}
