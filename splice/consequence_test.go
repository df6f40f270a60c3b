package splice_test

import (
	"math"
	"math/rand"
	"reflect"
	"slices"
	"testing"

	"becket/api"
	"becket/splice"
)

// The tests of P8.5, and of P1 for the package.

func TestALegalTuckLeadsToAValidState(t *testing.T) {
	for _, x := range manySplicings() {
		s := x.s
		for strand := range x.r.Strands {
			for under := 1; under <= x.r.Under; under++ {
				tuck := splice.Tuck{Strand: strand, Over: x.r.Over, Under: under}
				rule, _ := splice.Legal(x.r, s, tuck)
				next, e := splice.Next(x.r, s, tuck)
				same(t, e == api.OK, rule == 0, x, tuck)
				if e == api.OK {
					same(t, splice.CheckState(x.r, next), api.OK, x, tuck)
					s = next
				}
			}
		}
	}
}

func TestWhatIsSetAsideCanBeLeftOut(t *testing.T) {
	for _, x := range manySplicings() {
		s, aside, _ := splice.Replay(x.r, x.l)
		var kept []splice.Tuck
		for i, tuck := range x.l {
			if !slices.ContainsFunc(aside, func(r splice.Refusal) bool { return r.Number == i+1 }) {
				kept = append(kept, tuck)
			}
		}
		again, none, e := splice.Replay(x.r, kept)
		sameResult(t, again, e, s, api.OK, x)
		same(t, len(none), 0, x)
	}
}

// withoutTaper returns the rule with full tucks alone: as many rounds as it has make its splice complete.
func withoutTaper(r splice.Rule) splice.Rule {
	r.Taper = 0
	return r
}

func TestACompleteSpliceHoldsAllStrandsAlike(t *testing.T) {
	complete := 0
	for _, x := range manySplicings() {
		r := withoutTaper(x.r)
		for _, made := range []splicing{{r: x.r, l: x.l}, {r: r, l: roundsOf(r, min(r.Full, 256/r.Strands))}} {
			s, _, _ := splice.Replay(made.r, made.l)
			if _, e := splice.Lacks(made.r, s); e != api.ErrNone {
				continue
			}
			complete++
			same(t, s.Tucks, repeated(made.r.Strands, made.r.Full+made.r.Taper), made)
			first, _ := splice.Hold(made.r, s, 0)
			for strand := range made.r.Strands {
				hold, _ := splice.Hold(made.r, s, strand)
				same(t, hold, first, made, strand)
				for under := range 9 {
					rule, e := splice.Legal(made.r, s, splice.Tuck{Strand: strand, Over: made.r.Over, Under: under})
					sameResult(t, rule, e, 1, api.OK, made, strand, under)
				}
			}
		}
	}
	same(t, complete > 500, true, complete)
}

func TestReductionsInAnyOrder(t *testing.T) {
	source := seeded()
	for range 100 {
		var l []api.Rat
		for range source.Intn(8) {
			bottom := 1 + source.Intn(100)
			l = append(l, rat(ratio(source.Intn(bottom+1), bottom)))
		}
		first, e := splice.Strength("12345/7", l)
		same(t, e, api.OK, l)
		source.Shuffle(len(l), func(i, k int) { l[i], l[k] = l[k], l[i] })
		other, e := splice.Strength("12345/7", l)
		sameResult(t, other, e, first, api.OK, l)
	}
}

// The load is between what all legs that carry take with the least and with the greatest load of a leg.
func TestTheLegsThatCarryTakeTheLoad(t *testing.T) {
	for _, s := range manySlings() {
		for _, load := range []api.Rat{"80", "1/3", "999999999", "0", "12345678901234567890/7"} {
			cosine, _ := splice.Cosine(s)
			leg, e := splice.Leg(s, load)
			same(t, e, api.OK, s, load)
			square := times(value(load), value(load))
			for end, wanted := range map[api.Rat]int{leg.Low: -1, leg.High: 1} {
				all := times(carryingIn(s), value(end))
				order := times(times(all, all), value(cosine)).Cmp(square)
				if leg.Low == leg.High {
					wanted = 0
				}
				same(t, order, wanted, s, load, end)
			}
		}
	}
}

func TestAWiderSlingNeverHasLessLoad(t *testing.T) {
	for _, s := range manySlings() {
		wider := s
		wider.Spread = min(s.Spread+1+s.Height%50, splice.MaxReach)
		near, _ := splice.Cosine(s)
		far, _ := splice.Cosine(wider)
		same(t, value(far).Cmp(value(near)) <= 0, true, s, wider)
		leg, _ := splice.Leg(s, "80")
		other, _ := splice.Leg(wider, "80")
		same(t, value(leg.Low).Cmp(value(other.High)) <= 0, true, s, wider)
		if splice.Safe(wider, "80", leg.High) == api.OK {
			same(t, splice.Safe(s, "80", leg.High), api.OK, s, wider)
		}
		same(t, splice.Safe(wider, "80", other.High), api.OK, s, wider)
		same(t, splice.Safe(s, "80", other.High), api.OK, s, wider)
	}
}

func TestTheWidestSafeSling(t *testing.T) {
	for _, s := range manySlings() {
		for _, limit := range []api.Rat{"80", "81", "100", "1000/3", "40", "27"} {
			widest, e := splice.Widest(s, "80", limit)
			there, wider := s, s
			there.Spread, wider.Spread = widest, widest+1
			same(t, splice.Safe(there, "80", limit), e, s, limit)
			if e == api.OK && widest < splice.MaxReach {
				same(t, splice.Safe(wider, "80", limit), api.ErrLoad, s, limit)
			}
			wider.Spread = splice.MaxReach
			if e == api.OK && widest < splice.MaxReach {
				same(t, splice.Safe(wider, "80", limit), api.ErrLoad, s, limit)
			}
		}
	}
}

func TestKnotsAreTheMeshesWithoutTheFirstRow(t *testing.T) {
	for _, n := range manyNets() {
		meshes, _ := splice.Meshes(n)
		knots, e := splice.Knots(n)
		for _, row := range meshes {
			knots -= row
		}
		sameResult(t, knots, e, -n.First, api.OK, n)
	}
}

func TestAnEvenNetEndsWithTheLastNumber(t *testing.T) {
	source := seeded()
	for range 2000 {
		first, last, rows := 1+source.Intn(500), 1+source.Intn(500), 1+source.Intn(64)
		n, e := splice.Shaped(first, last, rows)
		if e == api.ErrRule {
			continue
		}
		same(t, e, api.OK, first, last, rows)
		meshes, e := splice.Meshes(n)
		same(t, e, api.OK, n)
		same(t, []int{len(meshes), meshes[0], meshes[rows]}, []int{rows + 1, first, last}, n)
		least, most := math.MaxInt, math.MinInt
		for _, row := range n.Rows {
			least, most = min(least, row.More-row.Less), max(most, row.More-row.Less)
			same(t, row.More == 0 || row.Less == 0, true, n)
		}
		same(t, most-least <= 1, true, n)
	}
}

// call has the arguments of all functions.
type call struct {
	splicing
	lift
	weave
	reductions        []api.Rat
	first, last, rows int
}

// outcome is the results of a call without its error, and the error.
type outcome struct {
	results []any
	e       api.Errno
}

// callAll calls all functions.
func callAll(x call) map[string]outcome {
	outcomes := map[string]outcome{}
	add := func(name string) func(any, api.Errno) {
		return func(result any, e api.Errno) { outcomes[name] = outcome{[]any{result}, e} }
	}
	outcomes["CheckRule"] = outcome{e: splice.CheckRule(x.r)}
	outcomes["CheckState"] = outcome{e: splice.CheckState(x.r, x.splicing.s)}
	outcomes["CheckSling"] = outcome{e: splice.CheckSling(x.lift.s)}
	outcomes["CheckNet"] = outcome{e: splice.CheckNet(x.n)}
	outcomes["Safe"] = outcome{e: splice.Safe(x.lift.s, x.load, x.limit)}
	s, aside, e := splice.Replay(x.r, x.l)
	outcomes["Replay"] = outcome{[]any{s, aside}, e}
	callSplices(x.splicing, x.splicing.s, add)
	strength, e := splice.Strength(x.load, x.reductions)
	add("Strength")(strength, e)
	callSlings(x.lift, add)
	callNets(x, add)
	return outcomes
}

func callSplices(x splicing, s splice.State, add func(name string) func(any, api.Errno)) {
	start, e := splice.Start(x.r)
	add("Start")(start, e)
	rule, e := splice.Legal(x.r, s, x.t)
	add("Legal")(rule, e)
	next, e := splice.Next(x.r, s, x.t)
	add("Next")(next, e)
	strand, e := splice.Lacks(x.r, s)
	add("Lacks")(strand, e)
	hold, e := splice.Hold(x.r, s, x.strand)
	add("Hold")(hold, e)
	efficiency, e := splice.Efficiency(x.r, s, x.table)
	add("Efficiency")(efficiency, e)
}

func callSlings(x lift, add func(name string) func(any, api.Errno)) {
	cosine, e := splice.Cosine(x.s)
	add("Cosine")(cosine, e)
	leg, e := splice.Leg(x.s, x.load)
	add("Leg")(leg, e)
	widest, e := splice.Widest(x.s, x.load, x.limit)
	add("Widest")(widest, e)
}

func callNets(x call, add func(name string) func(any, api.Errno)) {
	meshes, e := splice.Meshes(x.n)
	add("Meshes")(meshes, e)
	knots, e := splice.Knots(x.n)
	add("Knots")(knots, e)
	twine, e := splice.Twine(x.n, x.side, x.knot)
	add("Twine")(twine, e)
	n, e := splice.Shaped(x.first, x.last, x.rows)
	add("Shaped")(n, e)
}

// isNothing tells whether a result is the zero value of its type.
func isNothing(result any) bool {
	switch x := result.(type) {
	case splice.State:
		return len(x.Tucks)+len(x.Gaps) == 0
	case splice.Net:
		return x.First == 0 && len(x.Rows) == 0
	}
	value := reflect.ValueOf(result)
	if value.Kind() == reflect.Slice {
		return value.Len() == 0
	}
	return value.IsZero()
}

// anyInt returns an integer that is mostly small.
func anyInt(source *rand.Rand) int {
	if source.Intn(40) == 0 {
		return []int{math.MinInt, math.MaxInt, 1 << 32, -1 << 31, 65, 501, 100001}[source.Intn(7)]
	}
	return source.Intn(8) - 1
}

func anyInts(source *rand.Rand, most int) []int {
	var list []int
	for range source.Intn(most + 1) {
		list = append(list, anyInt(source))
	}
	return list
}

func anyRat(source *rand.Rand) api.Rat {
	texts := []api.Rat{"0", "1", "1/2", "3/4", "80", "50", "1/7", "-1", "", "2/4", "x", nines(600), nines(601), "1/" + nines(600)}
	if source.Intn(3) > 0 {
		texts = texts[:4]
	}
	return texts[source.Intn(len(texts))]
}

func anyRats(source *rand.Rand, most int) []api.Rat {
	var list []api.Rat
	for range source.Intn(most + 1) {
		list = append(list, anyRat(source))
	}
	return list
}

func anyTuck(source *rand.Rand) splice.Tuck {
	return splice.Tuck{Strand: anyInt(source), Over: anyInt(source), Under: anyInt(source)}
}

// anyCall returns arguments of any form, or such that are mostly without errors.
func anyCall(source *rand.Rand) call {
	x := call{
		splicing: splicing{
			r: splice.Rule{Strands: anyInt(source), Over: anyInt(source), Under: anyInt(source), Full: anyInt(source), Taper: anyInt(source)},
			s: splice.State{Tucks: anyInts(source, 5), Gaps: anyInts(source, 5)}, t: anyTuck(source), strand: anyInt(source),
		},
		lift:       lift{splice.Sling{Legs: anyInt(source), Height: anyInt(source), Spread: anyInt(source)}, anyRat(source), anyRat(source)},
		weave:      weave{splice.Net{First: anyInt(source)}, anyRat(source), anyRat(source)},
		reductions: anyRats(source, 3), first: anyInt(source), last: anyInt(source), rows: anyInt(source),
	}
	for range source.Intn(3) {
		x.l = append(x.l, anyTuck(source))
		x.n.Rows = append(x.n.Rows, splice.Row{More: anyInt(source), Less: anyInt(source)})
		x.table = append(x.table, api.Point{X: anyRat(source), Y: anyRat(source)})
	}
	if source.Intn(2) == 0 {
		x.r = randomRule(source)
		x.l = randomTucks(source, x.r, source.Intn(20))
		tucks, gaps, _ := replayIn(x.r, x.l)
		x.splicing.s = splice.State{Tucks: tucks, Gaps: gaps}
		x.t, x.strand, x.table = randomTucks(source, x.r, 1)[0], source.Intn(x.r.Strands), chapterTable()
		x.lift = lift{splice.Sling{Legs: 1 + source.Intn(4), Height: 5, Spread: source.Intn(9)}, "80", "50"}
		x.n = chapterNet()
	}
	return x
}

// roomy returns arguments that share no memory with these, with room behind the last elements of lists.
func roomy(x call) call {
	x.splicing.s = splice.State{Tucks: withRoom(x.splicing.s.Tucks), Gaps: withRoom(x.splicing.s.Gaps)}
	x.l, x.table, x.reductions, x.n.Rows = withRoom(x.l), withRoom(x.table), withRoom(x.reductions), withRoom(x.n.Rows)
	return x
}

func withRoom[T any](list []T) []T {
	return append(make([]T, 0, len(list)+9), list...)
}

// sameArguments fails the test if arguments are not what they were, also behind their last elements.
func sameArguments(t *testing.T, got, wanted call, what ...any) {
	t.Helper()
	same(t, whole(got), whole(wanted), what...)
}

func whole(x call) []any {
	s := x.splicing.s
	return []any{
		s.Tucks[:cap(s.Tucks)], s.Gaps[:cap(s.Gaps)], x.l[:cap(x.l)], x.table[:cap(x.table)], x.reductions[:cap(x.reductions)], x.n.Rows[:cap(x.n.Rows)],
		len(s.Tucks), len(s.Gaps), len(x.l), len(x.table), len(x.reductions), len(x.n.Rows),
	}
}

func TestAnyArguments(t *testing.T) {
	source := seeded()
	good := map[string]int{}
	for range 4000 {
		x := roomy(anyCall(source))
		given := roomy(x)
		for name, got := range callAll(x) {
			if got.e == api.OK {
				good[name]++
			} else {
				same(t, slices.ContainsFunc(got.results, func(x any) bool { return !isNothing(x) }), false, name, got)
			}
		}
		sameArguments(t, x, given, "an argument was changed")
	}
	for name := range callAll(call{}) {
		same(t, good[name] > 100, true, name, good[name])
	}
}

func TestDeterminism(t *testing.T) {
	source := seeded()
	for range 300 {
		x := anyCall(source)
		first := callAll(x)
		for name, got := range callAll(roomy(x)) {
			sameResult(t, got.results, got.e, first[name].results, first[name].e, name, x)
		}
	}
}

// goodCall returns arguments without errors.
func goodCall() call {
	return roomy(call{
		splicing: chapterSplicing(), lift: lift{splice.Sling{Legs: 2, Height: 4, Spread: 3}, "80", "50"}, weave: weave{chapterNet(), "2", "1"},
		reductions: []api.Rat{"4/5", "1/2"}, first: 6, last: 4, rows: 3,
	})
}

// wipe changes all memory of a result, also behind the last elements of lists.
func wipe(result any) {
	switch x := result.(type) {
	case []int:
		for i := range x[:cap(x)] {
			x[:cap(x)][i] = -7
		}
	case splice.State:
		wipe(x.Tucks)
		wipe(x.Gaps)
	case splice.Net:
		clear(x.Rows[:cap(x.Rows)])
	case []splice.Refusal:
		clear(x[:cap(x)])
	}
}

// Arguments and results share no memory, nor do two results.
func TestMemory(t *testing.T) {
	wanted := callAll(goodCall())
	for name, got := range wanted {
		same(t, got.e, api.OK, name)
	}
	x := goodCall()
	for name := range wanted {
		first := callAll(x)
		for _, result := range first[name].results {
			wipe(result)
		}
		sameArguments(t, x, goodCall(), name)
		for other, got := range first {
			if other != name {
				sameResult(t, got.results, got.e, wanted[other].results, wanted[other].e, name, other)
			}
		}
	}
}

// The two lists of a state share no memory either.
func TestMemoryOfStates(t *testing.T) {
	x := chapterSplicing()
	start, _ := splice.Start(x.r)
	next, _ := splice.Next(x.r, x.s, x.t)
	after, _, _ := splice.Replay(x.r, x.l)
	for _, s := range []splice.State{start, next, after} {
		gaps := slices.Clone(s.Gaps)
		wipe(s.Tucks)
		same(t, s.Gaps, gaps)
	}
}

func TestHugeArguments(t *testing.T) {
	huge := make([]int, 1<<20)
	x := goodCall()
	x.splicing.s = splice.State{Tucks: huge, Gaps: huge}
	x.l, x.table, x.reductions, x.n.Rows = make([]splice.Tuck, 1<<20), make([]api.Point, 1<<20), make([]api.Rat, 1<<20), make([]splice.Row, 1<<20)
	x.first, x.last, x.rows = math.MaxInt, math.MinInt, math.MaxInt
	outcomes := callAll(x)
	for code, names := range map[api.Errno][]string{
		api.ErrShape: {"CheckState", "Legal", "Next", "Lacks", "Hold", "Efficiency"},
		api.ErrMany:  {"Replay", "Strength", "CheckNet", "Meshes", "Knots", "Twine"},
		api.ErrRange: {"Shaped"},
		api.OK:       {"CheckRule", "Start", "CheckSling", "Cosine", "Leg", "Safe", "Widest"},
	} {
		for _, name := range names {
			same(t, outcomes[name].e, code, name)
		}
	}
}

// The greatest arguments, and each function with them.
func TestGreatArguments(t *testing.T) {
	r := splice.Rule{Strands: 8, Over: 7, Under: 7, Full: 20, Taper: 20}
	tucks := []int{40, 40, 40, 40, 40, 39, 39, 39}
	x := call{
		splicing: splicing{
			r: r, s: splice.State{Tucks: tucks, Gaps: []int{0, 1, 2, 3, 4, 5, 6, 7}}, t: splice.Tuck{Strand: 7, Over: 7, Under: 7},
			l: append(roundsOf(r, 20), repeated(96, splice.Tuck{Strand: 7, Over: 8, Under: 8})...), strand: 7, table: []api.Point{{X: nines(600) + "/" + ten(599), Y: "1"}},
		},
		lift:  lift{splice.Sling{Legs: 4, Height: 100000, Spread: 75000}, ten(598), nines(600)},
		weave: weave{splice.Net{First: 500, Rows: repeated(64, splice.Row{More: 166, Less: 166})}, nines(590), nines(590)},
		first: 250, last: 500, rows: 64, reductions: repeated(256, api.Rat("1/2")),
	}
	for name, got := range callAll(x) {
		same(t, got.e, api.OK, name, got)
	}
}
