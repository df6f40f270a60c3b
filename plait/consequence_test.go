package plait_test

import (
	"math"
	"math/rand"
	"reflect"
	"slices"
	"strconv"
	"strings"
	"testing"

	"becket/api"
	"becket/braid"
	"becket/plait"
)

// The tests of P7.5, and of P1 for the package.

func TestMovesThatAreUndoneLeadBack(t *testing.T) {
	for _, x := range manyPlays() {
		l := legalMoves(x)
		undo, _ := plait.Undo(l)
		s, aside, e := plait.Replay(x.s, append(slices.Clone(l), undo...))
		sameResult(t, s, e, x.s, api.OK, x)
		same(t, len(aside), 0, x)
		again, _ := plait.Undo(undo)
		same(t, again, l)
	}
}

// legalMoves returns the moves that are legal, one after another, at most 500 of them.
func legalMoves(x play) []plait.Move {
	_, refusals, _ := playIn(x.s, x.l)
	var l []plait.Move
	for i, m := range x.l {
		if !slices.ContainsFunc(refusals, func(r plait.Refusal) bool { return r.Number == i+1 }) && len(l) < 500 {
			l = append(l, m)
		}
	}
	return l
}

func TestAStandTurnedByAllItsSlots(t *testing.T) {
	source := seeded()
	for _, x := range manyPlays() {
		by, more := source.Intn(200)-100, source.Intn(200)-100
		s, _ := plait.Turned(x.s, len(x.s))
		same(t, s, x.s)
		once, _ := plait.Turned(x.s, by)
		twice, _ := plait.Turned(once, more)
		sum, _ := plait.Turned(x.s, by+more)
		same(t, twice, sum, x.s, by, more)
		turn, e := plait.Alike(x.s, once)
		same(t, e, api.OK, x.s, by)
		back, _ := plait.Turned(x.s, turn)
		same(t, back, once, x.s, by)
	}
}

func TestThreadsAreBackAfterRoundsAndNotBefore(t *testing.T) {
	source := seeded()
	for range 200 {
		s := randomStand(source, 4+source.Intn(6), 1+source.Intn(6))
		l := randomRound(source, s, 30)
		count, e := plait.Rounds(s, l)
		same(t, e, api.OK, s, l)
		now, rounds := s, 0
		for {
			after, aside, _ := plait.Replay(now, l)
			same(t, len(aside), 0, s, l)
			now = after
			rounds++
			if slices.Equal(now, s) || rounds > 5000 {
				break
			}
		}
		same(t, count, api.Rat(strconv.Itoa(rounds)), s, l)
	}
}

func TestPassesAndThoseBackCancel(t *testing.T) {
	for _, x := range manyLacings() {
		back, _ := plait.Back(x.n, x.l)
		w, _ := plait.Word(x.n, x.l)
		other, e := plait.Word(x.n, back)
		same(t, e, api.OK, x)
		inverse, _ := braid.Inverse(x.n, w)
		same(t, other, inverse, x)
		if both, e := braid.Concat(x.n, w, other); e == api.OK {
			reduced, e := braid.Reduce(x.n, both)
			sameResult(t, reduced, e, []int{}, api.OK, x)
		}
		again, _ := plait.Back(x.n, back)
		same(t, again, x.l)
	}
}

func TestThePassesOfAWordHaveIt(t *testing.T) {
	for _, x := range manyLacings() {
		l, _ := plait.Passes(x.n, x.w)
		w, e := plait.Word(x.n, l)
		sameResult(t, w, e, x.w, api.OK, x.n, x.w)
	}
}

func TestEachLetterIsOneCrossing(t *testing.T) {
	for _, x := range manyLacings() {
		crosses, _ := plait.Crosses(x.n, x.w)
		same(t, len(crosses), len(x.w), x)
		link, _ := braid.Link(x.n, x.w)
		met := map[[2]int]int{}
		for i, c := range crosses {
			sign := max(-1, min(1, x.w[i]))
			met[[2]int{c.Over, c.Under}] += sign
			met[[2]int{c.Under, c.Over}] += sign
		}
		for a := range x.n {
			for b := range x.n {
				same(t, met[[2]int{a + 1, b + 1}], link[a][b], x, a, b)
			}
		}
	}
}

func TestTheRepeatOfPassesIsThePeriodOfTheirWord(t *testing.T) {
	for _, x := range manyLacings() {
		w, _ := plait.Word(x.n, x.l)
		components, _ := braid.Components(x.n, w)
		period := 1
		for _, c := range components {
			period = period / divisorOf(period, len(c)) * len(c)
		}
		count, _ := plait.Repeat(x.n, x.l)
		same(t, count, api.Rat(strconv.Itoa(period)), x)
	}
}

func TestAMatAlternates(t *testing.T) {
	for leads := 2; leads <= 12; leads++ {
		for bights := 2; bights <= 100 && (leads-1)*bights <= 200; bights++ {
			head, _ := plait.Head(leads, bights)
			strand, e := plait.Alternates(leads, head)
			sameResult(t, strand, e, 0, api.OK, leads, bights)
			if twice, e := braid.Power(leads, head, 2); e == api.OK { // so it does where its ends are joined
				strand, e = plait.Alternates(leads, twice)
				sameResult(t, strand, e, 0, api.OK, leads, bights)
			}
			components, _ := braid.Components(leads, head)
			count, _ := plait.Strands(leads, bights)
			same(t, len(components), count, leads, bights)
			rows, _ := plait.Mat(leads, bights)
			for i, row := range rows {
				same(t, row == strings.Repeat("/", bights), head[i] > 0, leads, bights, i)
			}
		}
	}
}

func TestRoutesHaveEachBightOnce(t *testing.T) {
	for leads := 2; leads <= 100; leads += 3 {
		for bights := 2; bights <= 100; bights++ {
			count, _ := plait.Strands(leads, bights)
			var all []int
			for strand := range count {
				route, _ := plait.Route(leads, bights, strand)
				same(t, route[0], strand, leads, bights)
				all = append(all, route...)
			}
			slices.Sort(all)
			same(t, all, positionsFromZero(bights), leads, bights)
		}
	}
}

func positionsFromZero(n int) []int {
	list := positionsIn(n)
	for i := range list {
		list[i]--
	}
	return list
}

// call is the arguments of a call of each function.
type call struct {
	play
	lacing
	other            []int
	text             string
	by, strand       int
	leads, bights, m int
}

// outcome is what a call returns: its other results, and its error.
type outcome struct {
	results []any
	e       api.Errno
}

// callAll calls each function of the package.
func callAll(x call) map[string]outcome {
	all := map[string]outcome{}
	add := func(name string, e api.Errno, results ...any) { all[name] = outcome{results, e} }
	s, moves, n, passes, w := x.s, x.play.l, x.n, x.lacing.l, x.w
	move := plait.Move{From: x.by, To: x.strand}
	add("CheckStand", plait.CheckStand(s))
	add("CheckPasses", plait.CheckPasses(n, passes))
	add2 := func(name string) func(result any, e api.Errno) {
		return func(result any, e api.Errno) { add(name, e, result) }
	}
	callStands(s, x.other, moves, move, x.by, add2)
	after, aside, e := plait.Replay(s, moves)
	add("Replay", e, after, aside)
	l, word, e := plait.ParseMoves(x.text)
	if e == api.ErrSyntax {
		word = 0 // which it is then alone
	}
	add("ParseMoves", e, l, word)
	callRows(n, passes, w, add2)
	callMats(x, add2)
	return all
}

func callStands(s, other []int, l []plait.Move, m plait.Move, by int, add func(name string) func(any, api.Errno)) {
	rule, e := plait.Legal(s, m)
	add("Legal")(rule, e)
	next, e := plait.Next(s, m)
	add("Next")(next, e)
	undo, e := plait.Undo(l)
	add("Undo")(undo, e)
	turned, e := plait.Turned(s, by)
	add("Turned")(turned, e)
	turn, e := plait.Alike(s, other)
	add("Alike")(turn, e)
	round, e := plait.Round(s, l)
	add("Round")(round, e)
	rounds, e := plait.Rounds(s, l)
	add("Rounds")(rounds, e)
	spans, e := plait.Spans(s, l)
	add("Spans")(spans, e)
	text, e := plait.PrintMoves(l)
	add("PrintMoves")(text, e)
}

func callRows(n int, l []plait.Pass, w []int, add func(name string) func(any, api.Errno)) {
	word, e := plait.Word(n, l)
	add("Word")(word, e)
	back, e := plait.Back(n, l)
	add("Back")(back, e)
	passes, e := plait.Passes(n, w)
	add("Passes")(passes, e)
	crosses, e := plait.Crosses(n, w)
	add("Crosses")(crosses, e)
	strand, e := plait.Alternates(n, w)
	add("Alternates")(strand, e)
	count, e := plait.Repeat(n, l)
	add("Repeat")(count, e)
}

func callMats(x call, add func(name string) func(any, api.Errno)) {
	sennit, e := plait.Sennit(x.n, x.m)
	add("Sennit")(sennit, e)
	count, e := plait.Strands(x.leads, x.bights)
	add("Strands")(count, e)
	route, e := plait.Route(x.leads, x.bights, x.strand)
	add("Route")(route, e)
	mat, e := plait.Mat(x.leads, x.bights)
	add("Mat")(mat, e)
	head, e := plait.Head(x.leads, x.bights)
	add("Head")(head, e)
}

// isNothing tells whether a result is the zero value of its type.
func isNothing(result any) bool {
	value := reflect.ValueOf(result)
	if value.Kind() == reflect.Slice {
		return value.Len() == 0
	}
	return value.IsZero()
}

// anyInt returns an integer that is mostly small.
func anyInt(source *rand.Rand) int {
	if source.Intn(40) == 0 {
		return []int{math.MinInt, math.MaxInt, 1 << 32, -1 << 31, 65, 101}[source.Intn(6)]
	}
	return source.Intn(8) - 2
}

func anyInts(source *rand.Rand, most int) []int {
	var list []int
	for range source.Intn(most + 1) {
		list = append(list, anyInt(source))
	}
	return list
}

// anyCall returns arguments of any form, or such that are mostly without errors.
func anyCall(source *rand.Rand) call {
	x := call{
		play:   play{anyInts(source, 8), moves(anyInts(source, 6)...)},
		lacing: lacing{n: anyInt(source), w: anyInts(source, 4)},
		other:  anyInts(source, 8), text: []string{"", "1-2", "0-1 1-2", "1-2 ", "x", "1--2", "\xff"}[source.Intn(7)],
		by: anyInt(source), strand: anyInt(source), leads: anyInt(source), bights: anyInt(source), m: anyInt(source),
	}
	for range source.Intn(3) {
		x.lacing.l = append(x.lacing.l, plait.Pass{From: anyInt(source), To: anyInt(source), Way: []string{"", "o", "uo", "x", "\xff"}[source.Intn(5)]})
	}
	if source.Intn(2) == 0 {
		slots := 4 + source.Intn(5)
		x.s = randomStand(source, slots, 2+source.Intn(slots-2))
		x.other = turnedIn(x.s, source.Intn(slots))
		x.play.l = randomRound(source, x.s, source.Intn(10))
		x.n = 2 + source.Intn(11)
		x.lacing.l, x.w = randomPasses(source, x.n, source.Intn(4)), randomWord(source, x.n, source.Intn(20))
	}
	return x
}

// cloned returns arguments that share no memory with these.
func cloned(x call) call {
	x.s, x.other, x.w = slices.Clone(x.s), slices.Clone(x.other), slices.Clone(x.w)
	x.play.l, x.lacing.l = slices.Clone(x.play.l), slices.Clone(x.lacing.l)
	return x
}

// sameArguments fails the test if arguments are not what they were, also behind their last elements.
func sameArguments(t *testing.T, got, wanted call, what ...any) {
	t.Helper()
	same(t, whole(got), whole(wanted), what...)
}

func whole(x call) []any {
	return []any{
		x.s[:cap(x.s)], x.other[:cap(x.other)], x.w[:cap(x.w)], x.play.l[:cap(x.play.l)], x.lacing.l[:cap(x.lacing.l)],
		len(x.s), len(x.other), len(x.w), len(x.play.l), len(x.lacing.l),
	}
}

func TestAnyArguments(t *testing.T) {
	source := seeded()
	good := map[string]int{}
	for range 5000 {
		x := roomy(anyCall(source))
		given := roomy(x)
		for name, got := range callAll(x) {
			if got.e == api.OK {
				good[name]++
			} else {
				same(t, slices.ContainsFunc(got.results, func(x any) bool { return !isNothing(x) }), false, name, got)
			}
		}
		sameArguments(t, x, given, "an argument was changed")
	}
	for name := range callAll(call{}) {
		same(t, good[name] > 100, true, name, good[name])
	}
}

func TestDeterminism(t *testing.T) {
	source := seeded()
	for range 500 {
		x := anyCall(source)
		first := callAll(x)
		for name, got := range callAll(cloned(x)) {
			sameResult(t, got.results, got.e, first[name].results, first[name].e, name, x)
		}
	}
}

// roomy returns arguments that share no memory with these, with room behind the last elements of lists.
func roomy(x call) call {
	x.s, x.other, x.w = withRoom(x.s), withRoom(x.other), withRoom(x.w)
	x.play.l, x.lacing.l = withRoom(x.play.l), withRoom(x.lacing.l)
	return x
}

func withRoom[T any](list []T) []T {
	return append(make([]T, 0, len(list)+9), list...)
}

// goodCall returns arguments without errors.
func goodCall() call {
	return roomy(call{
		play: chapterPlay(), lacing: lacing{3, chapterPasses(), []int{1, -2, 2}}, other: []int{3, 4, 0, 0, 1, 2, 0, 0}, text: "1-2 2-3",
		by: 1, strand: 2, leads: 3, bights: 6, m: 5,
	})
}

// wipe changes all memory of a result, also behind the last elements of lists.
func wipe(result any) {
	switch x := result.(type) {
	case []int:
		for i := range x[:cap(x)] {
			x[:cap(x)][i] = -7
		}
	case []plait.Move:
		clear(x[:cap(x)])
	case []plait.Pass:
		clear(x[:cap(x)])
	case []plait.Cross:
		clear(x[:cap(x)])
	case []plait.Refusal:
		clear(x[:cap(x)])
	case []string:
		clear(x[:cap(x)])
	}
}

// Arguments and results share no memory, nor do two results.
func TestMemory(t *testing.T) {
	wanted := callAll(goodCall())
	for name, got := range wanted {
		same(t, got.e, api.OK, name)
	}
	x := goodCall()
	for name := range wanted {
		first := callAll(x)
		for _, result := range first[name].results {
			wipe(result)
		}
		sameArguments(t, x, goodCall(), name)
		for other, got := range first {
			if other != name {
				sameResult(t, got.results, got.e, wanted[other].results, wanted[other].e, name, other)
			}
		}
	}
}

// A stand without moves, and one that is not turned, are new lists all the same.
func TestMemoryWithoutChanges(t *testing.T) {
	s := chapterPlay().s
	after, _, _ := plait.Replay(s, nil)
	turned, _ := plait.Turned(s, 0)
	wipe(after)
	wipe(turned)
	same(t, s, chapterPlay().s)
}

func TestHugeArguments(t *testing.T) {
	huge := make([]int, 1<<20)
	x := call{
		play: play{huge, make([]plait.Move, 1<<20)}, lacing: lacing{3, make([]plait.Pass, 1<<20), huge}, other: huge, text: string(make([]byte, 1<<20)),
		by: math.MinInt, strand: math.MaxInt, leads: math.MaxInt, bights: math.MinInt, m: math.MaxInt,
	}
	for name, got := range callAll(x) {
		switch name {
		case "ParseMoves":
			same(t, got.e, api.ErrLong, name)
		case "Sennit", "Strands", "Route", "Mat", "Head":
			same(t, got.e, api.ErrRange, name)
		default:
			same(t, got.e, api.ErrMany, name)
		}
	}
}

// The greatest arguments, and each function with them.
func TestGreatArguments(t *testing.T) {
	s := randomStand(seeded(), 64, 63)
	from, to := 0, slices.Index(s, 0)
	if to == 0 {
		from = 1
	}
	back := []plait.Move{{From: from, To: to}, {From: to, To: from}}
	x := call{
		play: play{s, slices.Repeat(back, 300)}, lacing: lacing{12, repeated(18, plait.Pass{From: 12, To: 1, Way: "uuuuuuuuuuu"}), repeated(200, -11)}, other: turnedIn(s, 63),
		text: strings.TrimSuffix(strings.Repeat("1-2 ", 1000), " "), by: from, strand: to, leads: 100, bights: 100, m: 1000,
	}
	for name, got := range callAll(x) {
		wanted := map[string]api.Errno{"Head": api.ErrMany}[name]
		same(t, got.e, wanted, name)
	}
}
