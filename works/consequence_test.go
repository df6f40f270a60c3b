package works_test

import (
	"math"
	"math/big"
	"math/rand"
	"reflect"
	"slices"
	"testing"

	"becket/api"
	"becket/works"
)

// The tests of P9.6, and of P1 for the package.

func TestNoTrainIsNearerThanTheNearestOne(t *testing.T) {
	source := seeded()
	for _, w := range manyWheels() {
		for range 4 {
			x := plus(positiveRat(source, 2), over(randomRat(source, 3), ratio(1000, 1)))
			nearest, e := works.Nearest(w, rat(x))
			same(t, e, api.OK, w, x)
			found, e := works.Ratio(w, nearest)
			same(t, e, api.OK, w, x)
			least := distance(value(found), x)
			for _, tr := range allTrains(len(w)) {
				other, _ := works.Ratio(w, tr)
				same(t, least.Cmp(distance(value(other), x)) <= 0, true, w, x, tr)
			}
		}
	}
}

func TestAnExchangedTrainHasTheReciprocalRatio(t *testing.T) {
	for _, w := range manyWheels() {
		for _, tr := range allTrains(len(w)) {
			there, _ := works.Ratio(w, tr)
			back, e := works.Ratio(w, train(tr.Driven, tr.Drivers))
			sameResult(t, back, e, rat(over(ratio(1, 1), value(there))), api.OK, w, tr)
		}
	}
}

func TestConvergentsLieByTurnsBelowAndAbove(t *testing.T) {
	source := seeded()
	for i := range 400 {
		x := randomRat(source, 1+i/2)
		if i%3 == 0 {
			x.Neg(x)
		}
		list, e := works.Convergents(rat(x))
		same(t, e, api.OK, x)
		for k, text := range list {
			side := value(text).Cmp(x)
			switch {
			case k == len(list)-1:
				same(t, side, 0, x, k)
			default:
				same(t, side, []int{-1, 1}[k%2], x, k)
			}
			if k > 0 {
				same(t, distance(value(text), x).Cmp(distance(value(list[k-1]), x)), -1, x, k)
			}
		}
	}
}

func TestABobbinWithoutWasteEndsTheRun(t *testing.T) {
	for _, x := range manyBobbins(400, 64, 20) {
		run, errorOfRun := works.Run(x.lengths, x.uses)
		waste, e := works.Waste(x.lengths, x.uses)
		if errorOfRun != api.OK || e != api.OK {
			continue // numbers with too many digits
		}
		same(t, slices.Contains(waste, "0"), true, x)
		for i, left := range waste {
			last := over(value(x.lengths[i]), value(x.uses[i]))
			same(t, value(left).Sign() >= 0, true, x, i)
			same(t, left == "0", last.Cmp(value(run)) == 0, x, i)
		}
	}
}

func TestNoLoadingHasALongerRun(t *testing.T) {
	for _, x := range manyBobbins(120, 6, 5) {
		loading, e := works.Loading(x.lengths, x.uses)
		same(t, e, api.OK, x)
		best := onCarriers(x, loading)
		longest, _ := works.Run(best.lengths, best.uses)
		for _, other := range permutations(len(x.lengths)) {
			loaded := onCarriers(x, other)
			run, e := works.Run(loaded.lengths, loaded.uses)
			same(t, e, api.OK, x, other)
			same(t, value(run).Cmp(value(longest)) <= 0, true, x, other)
		}
	}
}

func TestNoWayOfCuttingHasFewerCoils(t *testing.T) {
	for _, x := range manyCuttings(120, 7) {
		cut, e := works.Cut(x.coil, x.pieces)
		same(t, e, api.OK, x)
		fewest, e := works.CheckCut(x.coil, x.pieces, cut)
		same(t, e, api.OK, x)
		bound, _ := works.Coils(x.coil, x.pieces)
		same(t, bound <= fewest, true, x)
		for _, other := range divisions(len(x.pieces)) {
			if coils, e := works.CheckCut(x.coil, x.pieces, other); e == api.OK {
				same(t, fewest <= coils, true, x, other)
			}
		}
	}
}

func TestTheFirstFitHasFewerThanTwiceTheBound(t *testing.T) {
	for _, x := range manyCuttings(600, 64) {
		cut, _ := works.FirstFit(x.coil, x.pieces)
		coils, e := works.CheckCut(x.coil, x.pieces, cut)
		same(t, e, api.OK, x)
		bound, _ := works.Coils(x.coil, x.pieces)
		same(t, bound <= coils, true, x)
		same(t, coils < 2*bound, len(x.pieces) > 0, x)
	}
}

func TestNoSequenceIsShorter(t *testing.T) {
	for _, x := range manyShops(120, 6) {
		best, e := works.Sequence(x.s)
		same(t, e, api.OK, x)
		least, _ := works.Makespan(x.s, best)
		bound, _ := works.Least(x.s)
		same(t, bound <= least, true, x)
		for _, order := range permutations(len(x.order)) {
			time, e := works.Makespan(x.s, order)
			same(t, e, api.OK, x, order)
			same(t, least <= time, true, x, order)
		}
	}
}

func TestImprovingNeverMakesASequenceLonger(t *testing.T) {
	shorter := 0
	for _, x := range manyShops(200, 32) {
		improved, e := works.Improve(x.s, x.order)
		same(t, e, api.OK, x)
		before, _ := works.Makespan(x.s, x.order)
		after, e := works.Makespan(x.s, improved)
		same(t, e, api.OK, x)
		same(t, after <= before, true, x)
		if after < before {
			shorter++
		} else {
			same(t, improved, x.order, x)
		}
		bound, _ := works.Least(x.s)
		same(t, bound <= after, true, x)
		for a := range improved {
			for b := range a {
				time, _ := works.Makespan(x.s, exchanged(improved, a, b))
				same(t, time >= after, true, x, a, b)
			}
		}
		again, e := works.Improve(x.s, improved)
		sameResult(t, again, e, improved, api.OK, x)
	}
	same(t, shorter > 100, true, shorter)
}

func TestNoListHasALesserGreatestLoad(t *testing.T) {
	for _, x := range append(manyLoads(100, 5, 4), manyLoads(40, 3, 16)...) {
		best, e := works.Spread(x.times, x.machines)
		same(t, e, api.OK, x)
		least, _ := works.CheckSpread(x.times, x.machines, best)
		bound, _ := works.Bound(x.times, x.machines)
		same(t, bound <= least, true, x)
		for _, a := range allLists(len(x.times), x.machines) {
			load, e := works.CheckSpread(x.times, x.machines, a)
			same(t, e, api.OK, x, a)
			same(t, least <= load, true, x, a)
		}
	}
}

// call has the arguments of all functions.
type call struct {
	geared
	wound
	cutting
	shopping
	loaded
}

// outcome is the results of a call without its error, and the error.
type outcome struct {
	results []any
	e       api.Errno
}

// callAll calls all functions.
func callAll(x call) map[string]outcome {
	outcomes := map[string]outcome{}
	add := func(name string) func(any, api.Errno) {
		return func(result any, e api.Errno) { outcomes[name] = outcome{[]any{result}, e} }
	}
	outcomes["CheckWheels"] = outcome{e: works.CheckWheels(x.w)}
	outcomes["CheckTrain"] = outcome{e: works.CheckTrain(x.w, x.t)}
	outcomes["CheckBobbins"] = outcome{e: works.CheckBobbins(x.lengths, x.uses)}
	outcomes["CheckPieces"] = outcome{e: works.CheckPieces(x.coil, x.pieces)}
	outcomes["CheckShop"] = outcome{e: works.CheckShop(x.s)}
	ratio, e := works.Ratio(x.w, x.t)
	add("Ratio")(ratio, e)
	nearest, e := works.Nearest(x.w, x.x)
	add("Nearest")(nearest, e)
	convergents, e := works.Convergents(x.x)
	add("Convergents")(convergents, e)
	callBobbins(x.wound, add)
	callCoils(x.cutting, add)
	callShops(x.shopping, add)
	callMachines(x.loaded, add)
	return outcomes
}

func callBobbins(x wound, add func(name string) func(any, api.Errno)) {
	run, e := works.Run(x.lengths, x.uses)
	add("Run")(run, e)
	waste, e := works.Waste(x.lengths, x.uses)
	add("Waste")(waste, e)
	loading, e := works.Loading(x.lengths, x.uses)
	add("Loading")(loading, e)
}

func callCoils(x cutting, add func(name string) func(any, api.Errno)) {
	coils, e := works.CheckCut(x.coil, x.pieces, x.cut)
	add("CheckCut")(coils, e)
	cut, e := works.Cut(x.coil, x.pieces)
	add("Cut")(cut, e)
	fit, e := works.FirstFit(x.coil, x.pieces)
	add("FirstFit")(fit, e)
	bound, e := works.Coils(x.coil, x.pieces)
	add("Coils")(bound, e)
}

func callShops(x shopping, add func(name string) func(any, api.Errno)) {
	time, e := works.Makespan(x.s, x.order)
	add("Makespan")(time, e)
	sequence, e := works.Sequence(x.s)
	add("Sequence")(sequence, e)
	least, e := works.Least(x.s)
	add("Least")(least, e)
	improved, e := works.Improve(x.s, x.order)
	add("Improve")(improved, e)
}

func callMachines(x loaded, add func(name string) func(any, api.Errno)) {
	load, e := works.CheckSpread(x.times, x.machines, x.a)
	add("CheckSpread")(load, e)
	a, e := works.Spread(x.times, x.machines)
	add("Spread")(a, e)
	bound, e := works.Bound(x.times, x.machines)
	add("Bound")(bound, e)
}

// isNothing tells whether a result is the zero value of its type.
func isNothing(result any) bool {
	if t, ok := result.(works.Train); ok {
		return len(t.Drivers)+len(t.Driven) == 0
	}
	value := reflect.ValueOf(result)
	if value.Kind() == reflect.Slice {
		return value.Len() == 0
	}
	return value.IsZero()
}

// anyInt returns an integer that is mostly small.
func anyInt(source *rand.Rand) int {
	if source.Intn(40) == 0 {
		return []int{math.MinInt, math.MaxInt, 1 << 32, -1 << 31, 17, 241, 1000001, 999999999}[source.Intn(8)]
	}
	return source.Intn(12) - 1
}

func anyInts(source *rand.Rand, most int) []int {
	var list []int
	for range source.Intn(most + 1) {
		list = append(list, anyInt(source))
	}
	return list
}

func anyRat(source *rand.Rand) api.Rat {
	texts := []api.Rat{"1", "1/2", "3/4", "80", "0", "50", "1/7", "-1", "", "2/4", "x", nines(600), nines(601), "1/" + nines(600)}
	if source.Intn(3) > 0 {
		texts = texts[:4]
	}
	return texts[source.Intn(len(texts))]
}

func anyRats(source *rand.Rand, most int) []api.Rat {
	var list []api.Rat
	for range source.Intn(most + 1) {
		list = append(list, anyRat(source))
	}
	return list
}

// anyCall returns arguments of any form, or such that are mostly without errors.
func anyCall(source *rand.Rand) call {
	if source.Intn(2) == 0 {
		return oneOfMany(source)
	}
	x := call{
		geared:   geared{anyInts(source, 10), train(anyInts(source, 3), anyInts(source, 3)), anyRat(source)},
		wound:    wound{anyRats(source, 3), anyRats(source, 3)},
		cutting:  cutting{anyInt(source), anyInts(source, 5), anyInts(source, 5)},
		shopping: shopping{works.Shop{Times: anyInts(source, 3), First: anyInts(source, 3)}, anyInts(source, 3)},
		loaded:   loaded{anyInts(source, 5), anyInt(source), anyInts(source, 5)},
	}
	for range source.Intn(4) {
		x.s.Setup = append(x.s.Setup, anyInts(source, 3))
	}
	return x
}

// oneOfMany returns arguments without errors, but for exact searches that may have too many elements.
func oneOfMany(source *rand.Rand) call {
	x := call{
		geared: chapterGears(), wound: chapterBobbins(), cutting: chapterCutting(),
		shopping: pick(source, manyShops(20, 9)), loaded: pick(source, manyLoads(20, 9, 16)),
	}
	x.w = append(x.w, 8+source.Intn(233))
	x.x = rat(positiveRat(source, 9))
	if source.Intn(2) == 0 {
		x.wound = pick(source, manyBobbins(20, 9, 9))
		x.cutting = pick(source, manyCuttings(20, 9))
		x.cut = firstFitIn(x.cutting)
	}
	return x
}

func pick[T any](source *rand.Rand, list []T) T {
	return list[source.Intn(len(list))]
}

// roomy returns arguments that share no memory with these, with room behind the last elements of lists.
func roomy(x call) call {
	x.w, x.t = withRoom(x.w), train(withRoom(x.t.Drivers), withRoom(x.t.Driven))
	x.lengths, x.uses = withRoom(x.lengths), withRoom(x.uses)
	x.pieces, x.cut = withRoom(x.pieces), withRoom(x.cut)
	x.s.Times, x.s.First, x.s.Setup, x.order = withRoom(x.s.Times), withRoom(x.s.First), withRoom(x.s.Setup), withRoom(x.order)
	for i, row := range x.s.Setup {
		x.s.Setup[i] = withRoom(row)
	}
	x.times, x.a = withRoom(x.times), withRoom(x.a)
	return x
}

func withRoom[T any](list []T) []T {
	return append(make([]T, 0, len(list)+9), list...)
}

// sameArguments fails the test if arguments are not what they were, also behind their last elements.
func sameArguments(t *testing.T, got, wanted call, what ...any) {
	t.Helper()
	same(t, whole(got), whole(wanted), what...)
}

func whole(x call) []any {
	list := []any{x.lengths[:cap(x.lengths)], x.uses[:cap(x.uses)], len(x.lengths), len(x.uses), x.s.Setup[:cap(x.s.Setup)], len(x.s.Setup)}
	for _, numbers := range append(x.s.Setup, x.w, x.t.Drivers, x.t.Driven, x.pieces, x.cut, x.s.Times, x.s.First, x.order, x.times, x.a) {
		list = append(list, numbers[:cap(numbers)], len(numbers))
	}
	return list
}

func TestAnyArguments(t *testing.T) {
	source := seeded()
	good := map[string]int{}
	for range 1500 {
		x := roomy(anyCall(source))
		given := roomy(x)
		for name, got := range callAll(x) {
			if got.e == api.OK {
				good[name]++
			} else {
				same(t, slices.ContainsFunc(got.results, func(x any) bool { return !isNothing(x) }), false, name, got)
			}
		}
		sameArguments(t, x, given, "an argument was changed")
	}
	for name := range callAll(call{}) {
		same(t, good[name] > 100, true, name, good[name])
	}
}

func TestDeterminism(t *testing.T) {
	source := seeded()
	for range 200 {
		x := anyCall(source)
		first := callAll(x)
		for name, got := range callAll(roomy(x)) {
			sameResult(t, got.results, got.e, first[name].results, first[name].e, name, x)
		}
	}
}

// goodCall returns arguments without errors.
func goodCall() call {
	return roomy(call{chapterGears(), chapterBobbins(), chapterCutting(), chapterShop(), chapterMachines()})
}

// wipe changes all memory of a result, also behind the last elements of lists.
func wipe(result any) {
	switch x := result.(type) {
	case []int:
		for i := range x[:cap(x)] {
			x[:cap(x)][i] = -7
		}
	case works.Train:
		wipe(x.Drivers)
		wipe(x.Driven)
	case []api.Rat:
		clear(x[:cap(x)])
	}
}

// Arguments and results share no memory, nor do two results.
func TestMemory(t *testing.T) {
	wanted := callAll(goodCall())
	for name, got := range wanted {
		same(t, got.e, api.OK, name)
	}
	x := goodCall()
	for name := range wanted {
		first := callAll(x)
		for _, result := range first[name].results {
			wipe(result)
		}
		sameArguments(t, x, goodCall(), name)
		for other, got := range first {
			if other != name {
				sameResult(t, got.results, got.e, wanted[other].results, wanted[other].e, name, other)
			}
		}
	}
}

// The two lists of a train share no memory, and a sequence that stays as it is shares none with the argument.
func TestMemoryOfLists(t *testing.T) {
	nearest, _ := works.Nearest([]int{20, 30, 40, 50}, "5/6")
	wipe(nearest.Drivers)
	same(t, nearest.Driven, []int{1, 2})
	order := []int{1, 0}
	improved, _ := works.Improve(chapterShop().s, order)
	wipe(improved)
	same(t, order, []int{1, 0})
}

func TestHugeArguments(t *testing.T) {
	huge := make([]int, 1<<20)
	texts := make([]api.Rat, 1<<20)
	x := call{
		geared{huge, train(numbersTo(1<<20), numbersTo(1<<20)), "1"}, wound{texts, texts}, cutting{10, huge, huge},
		shopping{works.Shop{Times: huge, First: huge, Setup: make([][]int, 1<<20)}, huge}, loaded{huge, 2, huge},
	}
	outcomes := callAll(x)
	for name, got := range outcomes {
		wanted := api.ErrMany
		if name == "Convergents" {
			wanted = api.OK
		}
		same(t, got.e, wanted, name)
	}
	x.w, x.lengths, x.pieces, x.times, x.s = chapterGears().w, chapterBobbins().lengths, chapterCutting().pieces, chapterMachines().times, chapterShop().s
	outcomes = callAll(x)
	for _, name := range []string{"CheckTrain", "Ratio", "CheckBobbins", "Run", "Waste", "Loading", "CheckCut", "Makespan", "Improve", "CheckSpread"} {
		same(t, outcomes[name].e, api.ErrShape, name)
	}
}

// The greatest arguments, and each function with them.
func TestGreatArguments(t *testing.T) {
	long := new(big.Int).Sub(value(nines(600)).Num(), big.NewInt(1))
	x := call{
		geared: geared{[]int{233, 234, 235, 236, 237, 238, 239, 240}, train([]int{6, 7}, []int{0, 1}), api.Rat(nines(600) + "/" + api.Rat(long.String()))},
		wound:  wound{repeated(8, api.Rat(nines(600)+"/"+ten(599))), repeated(8, api.Rat(nines(600)+"/"+ten(598)))},
		loaded: loaded{repeated(8, 1000000), 16, repeated(8, 15)}, shopping: shopping{evenShop(8, 1000000, 1000000, 1000000), numbersTo(8)},
		cutting: cutting{999999999, repeated(8, 999999999), numbersTo(8)},
	}
	for name, got := range callAll(x) {
		same(t, got.e, api.OK, name, got)
	}
	x.lengths, x.uses = repeated[api.Rat](64, nines(600)), repeated[api.Rat](64, "1")
	x.loaded = loaded{repeated(32, 1000000), 16, repeated(32, 15)}
	x.shopping = shopping{evenShop(32, 1000000, 1000000, 1000000), numbersTo(32)}
	x.cutting = cutting{999999999, repeated(64, 999999999), numbersTo(64)}
	for name, got := range callAll(x) {
		exact := slices.Contains([]string{"Loading", "Cut", "Sequence", "Spread"}, name)
		same(t, got.e == api.OK, !exact, name, got)
		same(t, got.e == api.ErrLimit, exact, name, got)
	}
}
