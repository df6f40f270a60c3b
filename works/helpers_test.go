package works_test

import (
	"fmt"
	"math"
	"math/big"
	"math/rand"
	"reflect"
	"slices"
	"strings"
	"testing"

	"becket/api"
	"becket/works"
)

// The tests use the exported functions of the package alone, and compare with math/big and with a plain model.

// same fails the test if a result is not the wanted one; nil and empty slices are equivalent.
func same(t *testing.T, got, wanted any, what ...any) {
	t.Helper()
	if !alike(reflect.ValueOf(got), reflect.ValueOf(wanted)) {
		t.Errorf("%s: got %s, want %s", shortened(what), shortened(got), shortened(wanted))
	}
}

func alike(a, b reflect.Value) bool {
	if a.Kind() == reflect.Interface && b.Kind() == reflect.Interface {
		a, b = a.Elem(), b.Elem()
	}
	if !a.IsValid() || !b.IsValid() || a.Type() != b.Type() {
		return false
	}
	switch a.Kind() {
	case reflect.Slice:
		if a.Len() != b.Len() {
			return false
		}
		for i := range a.Len() {
			if !alike(a.Index(i), b.Index(i)) {
				return false
			}
		}
		return true
	case reflect.Struct:
		for i := range a.NumField() {
			if !alike(a.Field(i), b.Field(i)) {
				return false
			}
		}
		return true
	}
	return a.Equal(b)
}

// shortened keeps long numbers out of messages.
func shortened(value any) string {
	text := fmt.Sprint(value)
	return text[:min(len(text), 300)]
}

// sameResult fails the test if a result and its error are not the wanted ones.
func sameResult(t *testing.T, got any, e api.Errno, wanted any, code api.Errno, what ...any) {
	t.Helper()
	same(t, e, code, what...)
	same(t, got, wanted, what...)
}

// seeded returns a source of numbers that is the same in each run.
func seeded() *rand.Rand {
	return rand.New(rand.NewSource(39373))
}

// rat returns the text of a number.
func rat(number *big.Rat) api.Rat {
	return api.Rat(number.RatString())
}

// value returns the number of a text that is known to be one.
func value(text api.Rat) *big.Rat {
	number, ok := new(big.Rat).SetString(string(text))
	if !ok {
		panic(fmt.Sprintf("%q is no number", text))
	}
	return number
}

// ratio returns a number for the model.
func ratio(top, bottom int) *big.Rat { return big.NewRat(int64(top), int64(bottom)) }

func plus(a, b *big.Rat) *big.Rat     { return new(big.Rat).Add(a, b) }
func minus(a, b *big.Rat) *big.Rat    { return new(big.Rat).Sub(a, b) }
func times(a, b *big.Rat) *big.Rat    { return new(big.Rat).Mul(a, b) }
func over(a, b *big.Rat) *big.Rat     { return new(big.Rat).Quo(a, b) }
func distance(a, b *big.Rat) *big.Rat { return new(big.Rat).Abs(minus(a, b)) }

// limited returns what a function has to return for a number: its text, or ErrLarge.
func limited(number *big.Rat) (api.Rat, api.Errno) {
	if len(strings.TrimPrefix(number.Num().String(), "-")) > api.MaxDigits || len(number.Denom().String()) > api.MaxDigits {
		return "", api.ErrLarge
	}
	return rat(number), api.OK
}

// nines returns the greatest integer with so many digits, and ten a power of ten.
func nines(count int) api.Rat  { return api.Rat(strings.Repeat("9", count)) }
func ten(exponent int) api.Rat { return api.Rat("1" + strings.Repeat("0", exponent)) }

// randomRat returns a number from 0 on whose parts have up to so many digits.
func randomRat(source *rand.Rand, most int) *big.Rat {
	part := func() *big.Int {
		limit := new(big.Int).Exp(big.NewInt(10), big.NewInt(int64(1+source.Intn(most))), nil)
		return limit.Rand(source, limit)
	}
	bottom := part()
	if bottom.Sign() == 0 || source.Intn(3) == 0 {
		bottom.SetInt64(1)
	}
	return new(big.Rat).SetFrac(part(), bottom)
}

// positiveRat returns a number above 0 whose parts have up to so many digits.
func positiveRat(source *rand.Rand, most int) *big.Rat {
	for {
		if number := randomRat(source, most); number.Sign() > 0 {
			return number
		}
	}
}

// badNumber is a text with the error that a function has to return for it.
type badNumber struct {
	text api.Rat
	e    api.Errno
}

// badNumbers returns texts that are no numbers.
func badNumbers() []badNumber {
	return []badNumber{
		{"", api.ErrForm}, {"x", api.ErrForm}, {"2/4", api.ErrForm}, {"-0", api.ErrForm}, {"1/0", api.ErrForm}, {"-2/4", api.ErrForm}, {"01", api.ErrForm},
		{nines(601), api.ErrLarge}, {"-1/" + nines(601), api.ErrLarge},
	}
}

// fault makes something wrong, so that the error has to be returned.
type fault[T any] struct {
	make func(x *T)
	e    api.Errno
}

// checkFaults fails the test for each fault, in the order of their errors, that does not decide alone, or together with
// one that comes after it.
func checkFaults[T any](t *testing.T, good func() T, faults []fault[T], check func(x T) api.Errno) {
	t.Helper()
	same(t, check(good()), api.OK, "without a fault")
	for i, first := range faults {
		for k, later := range faults[i:] {
			x := good()
			later.make(&x)
			first.make(&x) // the last one, for it may overwrite what the later one made
			same(t, check(x), first.e, "fault", i, "before", i+k)
		}
	}
}

// together returns the faults of several lists in their order.
func together[T any](faults ...[]fault[T]) []fault[T] {
	return slices.Concat(faults...)
}

// repeated returns a list with an element so many times.
func repeated[T any](count int, element T) []T {
	return slices.Repeat([]T{element}, count)
}

// extremes are integers that are always out of range.
func extremes() []int {
	return []int{-1, 1000000000, math.MinInt, math.MaxInt, math.MinInt32, 1 << 32}
}

// geared is wheels with a train and a number.
type geared struct {
	w []int
	t works.Train
	x api.Rat
}

// chapterGears is the wheels W of the chapter, with a train.
func chapterGears() geared {
	return geared{[]int{20, 30, 40, 50}, train([]int{0, 3}, []int{1, 2}), "5/6"}
}

func train(drivers, driven []int) works.Train {
	return works.Train{Drivers: drivers, Driven: driven}
}

// faultsOfWheels returns what makes wheels wrong.
func faultsOfWheels() []fault[geared] {
	var list []fault[geared]
	add := func(e api.Errno, w ...int) {
		list = append(list, fault[geared]{func(x *geared) { x.w = w }, e})
	}
	add(api.ErrMany, repeated(9, 20)...)
	add(api.ErrMany, repeated(9, 7)...)
	add(api.ErrMany, repeated(100000, -1)...)
	for _, wrong := range append(extremes(), 0, 1, 7, 241) {
		add(api.ErrRange, wrong)
		add(api.ErrRange, 20, 30, 40, wrong)
		add(api.ErrRange, wrong, 20, 30, 40, 50, 60, 70, 80)
	}
	return list
}

// faultsOfTrains returns what makes wheels, or a train of four, wrong.
func faultsOfTrains() []fault[geared] {
	list := faultsOfWheels()
	add := func(e api.Errno, drivers, driven []int) {
		list = append(list, fault[geared]{func(x *geared) { x.t = train(drivers, driven) }, e})
	}
	add(api.ErrShape, nil, nil)
	add(api.ErrShape, []int{0}, nil)
	add(api.ErrShape, nil, []int{0})
	add(api.ErrShape, []int{0}, []int{1, 2})
	add(api.ErrShape, []int{0, 1}, []int{2})
	add(api.ErrShape, []int{9, 9}, []int{9})
	add(api.ErrShape, []int{0, 1, 2}, []int{3, 4, 5})
	add(api.ErrShape, []int{0, 1, 2}, []int{3})
	add(api.ErrShape, make([]int, 100000), make([]int, 100000))
	for _, wrong := range append(extremes(), 4) {
		add(api.ErrUnknown, []int{wrong}, []int{0})
		add(api.ErrUnknown, []int{0}, []int{wrong})
		add(api.ErrUnknown, []int{wrong, 1}, []int{1, 1})
		add(api.ErrUnknown, []int{1, wrong}, []int{1, 0})
		add(api.ErrUnknown, []int{1, 2}, []int{wrong, 1})
		add(api.ErrUnknown, []int{1, 2}, []int{3, wrong})
		add(api.ErrUnknown, []int{wrong, wrong}, []int{wrong, wrong})
	}
	for _, bad := range [][4]int{{1, 1, 9, 9}, {0, 2, 0, 9}, {0, 2, 2, 9}, {0, 2, 1, 0}, {0, 2, 1, 2}, {0, 2, 1, 1}, {0, 1, 3, 0}} {
		add(api.ErrTwice, bad[:2], bad[2:])
	}
	add(api.ErrTwice, []int{0}, []int{0})
	add(api.ErrTwice, []int{3}, []int{3})
	for _, bad := range [][4]int{{1, 0, 9, 9}, {3, 0, 3, 3}, {0, 1, 3, 2}, {2, 3, 1, 0}, {3, 2, 1, 0}} {
		add(api.ErrOrder, bad[:2], bad[2:])
	}
	return list
}

// manyWheels returns wheels of all numbers, equal ones and such with common divisors among them.
func manyWheels() [][]int {
	source := seeded()
	list := [][]int{{20, 30, 40, 50}, {8, 240}, {8, 8}, {9, 9, 9, 9}, {240, 239, 238, 237, 11, 10, 9, 8}, repeated(8, 60), {8, 16, 32, 64, 128}}
	for i := range 40 {
		var w []int
		for range 2 + i%7 {
			if i < 20 {
				w = append(w, 8+source.Intn(233))
			} else {
				w = append(w, 10*(1+source.Intn(6)))
			}
		}
		list = append(list, w)
	}
	return list
}

// wound is lengths of yarn on bobbins, and what their carriers use.
type wound struct {
	lengths []api.Rat
	uses    []api.Rat
}

// chapterBobbins is the bobbins of the chapter.
func chapterBobbins() wound {
	return wound{[]api.Rat{"10", "6", "8"}, []api.Rat{"2", "1", "2"}}
}

// faultsOfBobbins returns what makes bobbins wrong.
func faultsOfBobbins() []fault[wound] {
	list := []fault[wound]{
		{func(x *wound) { x.lengths, x.uses = nil, nil }, api.ErrEmpty},
		{func(x *wound) { x.lengths = nil }, api.ErrEmpty},
		{func(x *wound) { x.lengths, x.uses = repeated[api.Rat](65, "x"), nil }, api.ErrMany},
		{func(x *wound) { x.lengths, x.uses = repeated[api.Rat](65, "1"), repeated[api.Rat](65, "1") }, api.ErrMany},
		{func(x *wound) { x.uses = nil }, api.ErrShape},
		{func(x *wound) { x.uses = []api.Rat{"1", "x"} }, api.ErrShape},
		{func(x *wound) { x.uses = repeated[api.Rat](100000, "x") }, api.ErrShape},
	}
	for place := range 3 {
		for _, bad := range badNumbers() {
			list = append(list, fault[wound]{func(x *wound) { x.lengths = with(x.lengths, place, bad.text) }, bad.e})
		}
	}
	for place := range 3 {
		for _, bad := range badNumbers() {
			list = append(list, fault[wound]{func(x *wound) { x.uses = with(x.uses, place, bad.text) }, bad.e})
		}
	}
	for place := range 3 {
		for _, bad := range []api.Rat{"-1", "-1/7", "-" + nines(600)} {
			list = append(list, fault[wound]{func(x *wound) { x.lengths = with(x.lengths, place, bad) }, api.ErrRange})
			list = append(list, fault[wound]{func(x *wound) { x.uses = with(x.uses, place, bad) }, api.ErrRange})
		}
		list = append(list, fault[wound]{func(x *wound) { x.uses = with(x.uses, place, "0") }, api.ErrRange})
	}
	return list
}

// with returns a copy of a list with another element at a place.
func with[T any](list []T, place int, element T) []T {
	changed := slices.Clone(list)
	changed[place] = element
	return changed
}

// manyBobbins returns bobbins: up to so many, with numbers of up to so many digits, equal ones among them.
func manyBobbins(cases, most, digits int) []wound {
	source := seeded()
	list := []wound{chapterBobbins(), {[]api.Rat{"0"}, []api.Rat{"1/7"}}, {[]api.Rat{"0", "3"}, []api.Rat{"1", "1"}}, {[]api.Rat{"2", "2", "2"}, []api.Rat{"5", "5", "5"}}}
	for i := range cases {
		var x wound
		for range 1 + source.Intn(most) {
			if i%2 == 0 {
				x.lengths = append(x.lengths, rat(ratio(source.Intn(9), 1+source.Intn(2))))
				x.uses = append(x.uses, rat(ratio(1+source.Intn(3), 1+source.Intn(2))))
			} else {
				x.lengths = append(x.lengths, rat(randomRat(source, digits)))
				x.uses = append(x.uses, rat(positiveRat(source, digits)))
			}
		}
		list = append(list, x)
	}
	return list
}

// cutting is a coil with pieces and a way of cutting.
type cutting struct {
	coil   int
	pieces []int
	cut    []int
}

// chapterCutting is the coil and the pieces of the chapter, with a way of cutting.
func chapterCutting() cutting {
	return cutting{10, []int{6, 5, 4, 5}, []int{0, 1, 1, 2}}
}

// faultsOfPieces returns what makes a coil or pieces wrong.
func faultsOfPieces() []fault[cutting] {
	var list []fault[cutting]
	for _, wrong := range append(extremes(), 0) {
		list = append(list, fault[cutting]{func(x *cutting) { x.coil = wrong }, api.ErrRange})
	}
	add := func(e api.Errno, pieces ...int) {
		list = append(list, fault[cutting]{func(x *cutting) { x.coil, x.pieces = 10, pieces }, e})
	}
	add(api.ErrMany, repeated(65, 1)...)
	add(api.ErrMany, repeated(65, 11)...)
	add(api.ErrMany, repeated(100000, -1)...)
	for _, wrong := range append(extremes(), 0) {
		add(api.ErrRange, wrong)
		add(api.ErrRange, 6, wrong, 11, 5)
		add(api.ErrRange, 6, 5, 4, wrong)
	}
	add(api.ErrLarge, 11)
	add(api.ErrLarge, 6, 999999999, 0, 5)
	add(api.ErrLarge, 6, 10, 4, 11)
	return list
}

// faultsOfCuts returns what makes a coil, pieces or a way of cutting wrong.
func faultsOfCuts() []fault[cutting] {
	list := faultsOfPieces()
	add := func(e api.Errno, cut ...int) {
		list = append(list, fault[cutting]{func(x *cutting) { x.coil, x.pieces, x.cut = 10, []int{6, 5, 4, 5}, cut }, e})
	}
	add(api.ErrShape)
	add(api.ErrShape, 0, 1, 1)
	add(api.ErrShape, 9, 0, 0, 0, 0)
	add(api.ErrShape, make([]int, 100000)...)
	for _, wrong := range append(extremes(), 4) {
		add(api.ErrOrder, wrong, 0, 0, 0)
		add(api.ErrOrder, 0, wrong, 0, 0)
		add(api.ErrOrder, 0, 1, 2, wrong)
	}
	add(api.ErrOrder, 1, 0, 0, 0)
	add(api.ErrOrder, 0, 2, 1, 1)
	add(api.ErrOrder, 0, 1, 3, 0)
	add(api.ErrLoad, 0, 0, 9, 9)
	add(api.ErrLoad, 0, 1, 0, 0)
	add(api.ErrLoad, 0, 1, 1, 1)
	add(api.ErrLoad, 0, 0, 0, 0)
	return list
}

// manyCuttings returns coils with pieces, up to so many.
func manyCuttings(cases, most int) []cutting {
	source := seeded()
	list := []cutting{chapterCutting(), {coil: 1}, {coil: 999999999, pieces: []int{999999999, 1, 500000000, 499999999}}, {coil: 7, pieces: repeated(most, 7)}, {coil: 7, pieces: repeated(most, 1)}}
	for i := range cases {
		x := cutting{coil: 1 + source.Intn(40)}
		if i%4 == 0 {
			x.coil = 1 + source.Intn(999999999)
		}
		for range source.Intn(most + 1) {
			x.pieces = append(x.pieces, 1+source.Intn(1+(x.coil-1)/(1+i%3)))
		}
		list = append(list, x)
	}
	return list
}

// shopping is a shop with a sequence.
type shopping struct {
	s     works.Shop
	order []int
}

// chapterShop is the shop of the chapter, with a sequence.
func chapterShop() shopping {
	return shopping{works.Shop{Times: []int{5, 3}, First: []int{1, 2}, Setup: [][]int{{0, 4}, {1, 0}}}, []int{0, 1}}
}

// evenShop returns a shop of so many orders with equal times.
func evenShop(orders, time, first, setUp int) works.Shop {
	s := works.Shop{Times: repeated(orders, time), First: repeated(orders, first)}
	for i := range orders {
		s.Setup = append(s.Setup, with(repeated(orders, setUp), i, 0))
	}
	return s
}

// faultsOfShops returns what makes a shop wrong.
func faultsOfShops() []fault[shopping] {
	var list []fault[shopping]
	add := func(e api.Errno, times, first []int, rows ...[]int) {
		list = append(list, fault[shopping]{func(x *shopping) { x.s = works.Shop{Times: times, First: first, Setup: rows} }, e})
	}
	add(api.ErrEmpty, nil, nil)
	add(api.ErrEmpty, nil, []int{1, 2}, []int{0, 4}, []int{1, 0})
	large := evenShop(33, 1, 1, 1)
	add(api.ErrMany, large.Times, large.First, large.Setup...)
	add(api.ErrMany, repeated(33, -1), nil)
	add(api.ErrMany, repeated(100000, -1), nil)
	add(api.ErrShape, []int{5, 3}, nil, []int{0, 4}, []int{1, 0})
	add(api.ErrShape, []int{5, 3}, []int{1, 2})
	add(api.ErrShape, []int{5, -3}, []int{1}, []int{0, 4}, []int{1, 0})
	add(api.ErrShape, []int{5, 3}, []int{1, 2, 3}, []int{0, 4}, []int{1, 0})
	add(api.ErrShape, []int{5, 3}, []int{1, 2}, []int{0, 4})
	add(api.ErrShape, []int{5, 3}, []int{1, 2}, []int{0, 4}, []int{1, 0}, []int{1, 1})
	add(api.ErrShape, []int{5, 3}, []int{1, 2}, []int{7, -4}, []int{1})
	add(api.ErrShape, []int{5, 3}, []int{1, 2}, []int{0, 4, 5}, []int{1, 0})
	add(api.ErrShape, []int{5, 3}, []int{1, 2}, nil, []int{1, 0})
	add(api.ErrShape, []int{5, 3}, []int{1, 2}, []int{0, 4}, make([]int, 100000))
	for _, wrong := range append(extremes(), 1000001) {
		for place := range 2 {
			add(api.ErrRange, with([]int{5, 3}, place, wrong), []int{1, 2}, []int{0, 4}, []int{1, 0})
			add(api.ErrRange, []int{5, 3}, with([]int{1, 2}, place, wrong), []int{0, 4}, []int{1, 0})
			add(api.ErrRange, []int{5, 3}, []int{1, 2}, with([]int{0, 4}, place, wrong), []int{1, 0})
			add(api.ErrRange, []int{5, 3}, []int{1, 2}, []int{0, 4}, with([]int{1, 0}, place, wrong))
		}
	}
	add(api.ErrRange, []int{5, 3}, []int{1, 2}, []int{1, 4}, []int{1, 0})
	add(api.ErrRange, []int{5, 3}, []int{1, 2}, []int{0, 4}, []int{1, 1000000})
	return list
}

// faultsOfSequences returns what makes a shop, or a sequence of its two orders, wrong.
func faultsOfSequences() []fault[shopping] {
	list := faultsOfShops()
	add := func(e api.Errno, order ...int) {
		list = append(list, fault[shopping]{func(x *shopping) { x.order = order }, e})
	}
	add(api.ErrShape)
	add(api.ErrShape, 0)
	add(api.ErrShape, 0, 1, 2)
	add(api.ErrShape, make([]int, 300)...)
	add(api.ErrPerm, 0, 0)
	add(api.ErrPerm, 1, 1)
	for _, wrong := range append(extremes(), 2) {
		add(api.ErrPerm, 0, wrong)
		add(api.ErrPerm, wrong, 1)
	}
	return list
}

// manyShops returns shops with a sequence, of up to so many orders.
func manyShops(cases, most int) []shopping {
	source := seeded()
	list := []shopping{chapterShop(), {works.Shop{Times: []int{0}, First: []int{0}, Setup: [][]int{{0}}}, []int{0}}, {evenShop(most, 1000000, 1000000, 1000000), source.Perm(most)}, {evenShop(most, 0, 0, 0), source.Perm(most)}}
	for i := range cases {
		orders, below := 1+source.Intn(most), 1+source.Intn(4)
		if i%2 == 0 {
			below = 1000001
		}
		s := evenShop(orders, 0, 0, 0)
		for a := range orders {
			s.Times[a], s.First[a] = source.Intn(below), source.Intn(below)
			for b := range orders {
				if a != b {
					s.Setup[a][b] = source.Intn(below)
				}
			}
		}
		list = append(list, shopping{s, source.Perm(orders)})
	}
	return list
}

// loaded is times of orders on machines, with a list.
type loaded struct {
	times    []int
	machines int
	a        []int
}

// chapterMachines is the times and the machines of the chapter, with a list.
func chapterMachines() loaded {
	return loaded{[]int{3, 3, 2, 2, 2}, 2, []int{0, 1, 0, 1, 0}}
}

// faultsOfTimes returns what makes times or machines wrong.
func faultsOfTimes() []fault[loaded] {
	var list []fault[loaded]
	add := func(e api.Errno, times ...int) {
		list = append(list, fault[loaded]{func(x *loaded) { x.times = times }, e})
	}
	add(api.ErrMany, repeated(33, 1)...)
	add(api.ErrMany, repeated(33, -1)...)
	add(api.ErrMany, repeated(100000, -1)...)
	for _, wrong := range append(extremes(), 1000001) {
		add(api.ErrRange, wrong)
		add(api.ErrRange, 3, 3, 2, 2, wrong)
	}
	for _, wrong := range append(extremes(), 0, 17) {
		list = append(list, fault[loaded]{func(x *loaded) { x.machines = wrong }, api.ErrRange})
	}
	return list
}

// faultsOfSpreads returns what makes times, machines or a list of five machines wrong.
func faultsOfSpreads() []fault[loaded] {
	list := faultsOfTimes()
	add := func(e api.Errno, a ...int) {
		list = append(list, fault[loaded]{func(x *loaded) { x.a = a }, e})
	}
	add(api.ErrShape)
	add(api.ErrShape, 0, 1, 0, 1)
	add(api.ErrShape, 9, 9, 9, 9, 9, 9)
	add(api.ErrShape, make([]int, 100000)...)
	for _, wrong := range append(extremes(), 2, 15, 16) {
		for place := range 5 {
			add(api.ErrUnknown, with([]int{0, 1, 0, 1, 0}, place, wrong)...)
		}
	}
	return list
}

// manyLoads returns times on machines, up to so many of both, with a list.
func manyLoads(cases, mostTimes, mostMachines int) []loaded {
	source := seeded()
	list := []loaded{chapterMachines(), {machines: 1}, {machines: 16}, {repeated(mostTimes, 1000000), mostMachines, make([]int, mostTimes)}, {repeated(mostTimes, 0), mostMachines, make([]int, mostTimes)}}
	for i := range cases {
		x := loaded{machines: 1 + source.Intn(mostMachines)}
		for range source.Intn(mostTimes + 1) {
			if i%2 == 0 {
				x.times = append(x.times, source.Intn(8))
			} else {
				x.times = append(x.times, source.Intn(1000001))
			}
			x.a = append(x.a, source.Intn(x.machines))
		}
		list = append(list, x)
	}
	return list
}
