package splice_test

import (
	"fmt"
	"math"
	"math/big"
	"math/rand"
	"reflect"
	"slices"
	"strings"
	"testing"

	"becket/api"
	"becket/splice"
)

// The tests use the exported functions of the package alone, and compare with math/big and with a plain model.

// same fails the test if a result is not the wanted one; nil and empty slices are equivalent.
func same(t *testing.T, got, wanted any, what ...any) {
	t.Helper()
	if !alike(reflect.ValueOf(got), reflect.ValueOf(wanted)) {
		t.Errorf("%s: got %s, want %s", shortened(what), shortened(got), shortened(wanted))
	}
}

func alike(a, b reflect.Value) bool {
	if a.Kind() == reflect.Interface && b.Kind() == reflect.Interface {
		a, b = a.Elem(), b.Elem()
	}
	if !a.IsValid() || !b.IsValid() || a.Type() != b.Type() {
		return false
	}
	switch a.Kind() {
	case reflect.Slice:
		if a.Len() != b.Len() {
			return false
		}
		for i := range a.Len() {
			if !alike(a.Index(i), b.Index(i)) {
				return false
			}
		}
		return true
	case reflect.Struct:
		for i := range a.NumField() {
			if !alike(a.Field(i), b.Field(i)) {
				return false
			}
		}
		return true
	}
	return a.Equal(b)
}

// shortened keeps long numbers out of messages.
func shortened(value any) string {
	text := fmt.Sprint(value)
	return text[:min(len(text), 300)]
}

// sameResult fails the test if a result and its error are not the wanted ones.
func sameResult(t *testing.T, got any, e api.Errno, wanted any, code api.Errno, what ...any) {
	t.Helper()
	same(t, e, code, what...)
	same(t, got, wanted, what...)
}

// seeded returns a source of numbers that is the same in each run.
func seeded() *rand.Rand {
	return rand.New(rand.NewSource(39373))
}

// rat returns the text of a number.
func rat(number *big.Rat) api.Rat {
	return api.Rat(number.RatString())
}

// value returns the number of a text that is known to be one.
func value(text api.Rat) *big.Rat {
	number, ok := new(big.Rat).SetString(string(text))
	if !ok {
		panic(fmt.Sprintf("%q is no number", text))
	}
	return number
}

// ratio returns a number for the model.
func ratio(top, bottom int) *big.Rat { return big.NewRat(int64(top), int64(bottom)) }

func plus(a, b *big.Rat) *big.Rat  { return new(big.Rat).Add(a, b) }
func times(a, b *big.Rat) *big.Rat { return new(big.Rat).Mul(a, b) }
func over(a, b *big.Rat) *big.Rat  { return new(big.Rat).Quo(a, b) }

// limited returns what a function has to return for a number: its text, or ErrLarge.
func limited(number *big.Rat) (api.Rat, api.Errno) {
	if len(strings.TrimPrefix(number.Num().String(), "-")) > api.MaxDigits || len(number.Denom().String()) > api.MaxDigits {
		return "", api.ErrLarge
	}
	return rat(number), api.OK
}

// sameLimited fails the test if a number and its error are not those of a result.
func sameLimited(t *testing.T, got api.Rat, e api.Errno, wanted *big.Rat, what ...any) {
	t.Helper()
	text, code := limited(wanted)
	sameResult(t, got, e, text, code, what...)
}

// nines returns the greatest integer with so many digits, and ten a power of ten.
func nines(count int) api.Rat  { return api.Rat(strings.Repeat("9", count)) }
func ten(exponent int) api.Rat { return api.Rat("1" + strings.Repeat("0", exponent)) }

// randomRat returns a number from 0 on whose parts have up to so many digits.
func randomRat(source *rand.Rand, most int) *big.Rat {
	part := func() *big.Int {
		limit := new(big.Int).Exp(big.NewInt(10), big.NewInt(int64(1+source.Intn(most))), nil)
		return limit.Rand(source, limit)
	}
	bottom := part()
	if bottom.Sign() == 0 || source.Intn(3) == 0 {
		bottom.SetInt64(1)
	}
	return new(big.Rat).SetFrac(part(), bottom)
}

// badNumber is a text with the error that a function has to return for it.
type badNumber struct {
	text api.Rat
	e    api.Errno
}

// badNumbers returns texts that are no numbers.
func badNumbers() []badNumber {
	return []badNumber{
		{"", api.ErrForm}, {"x", api.ErrForm}, {"2/4", api.ErrForm}, {"-0", api.ErrForm}, {"1/0", api.ErrForm}, {"-2/4", api.ErrForm},
		{nines(601), api.ErrLarge}, {"-1/" + nines(601), api.ErrLarge},
	}
}

// badAmounts returns texts that are no numbers from 0 on.
func badAmounts() []badNumber {
	return append(badNumbers(), badNumber{"-1", api.ErrRange}, badNumber{"-1/7", api.ErrRange}, badNumber{"-" + nines(600), api.ErrRange})
}

// fault makes something wrong, so that the error has to be returned.
type fault[T any] struct {
	make func(x *T)
	e    api.Errno
}

// checkFaults fails the test for each fault, in the order of their errors, that does not decide alone, or together with
// one that comes after it.
func checkFaults[T any](t *testing.T, good func() T, faults []fault[T], check func(x T) api.Errno) {
	t.Helper()
	same(t, check(good()), api.OK, "without a fault")
	for i, first := range faults {
		for k, later := range faults[i:] {
			x := good()
			later.make(&x)
			first.make(&x) // the last one, for it may overwrite what the later one made
			same(t, check(x), first.e, "fault", i, "before", i+k)
		}
	}
}

// repeated returns a list with an element so many times.
func repeated[T any](count int, element T) []T {
	return slices.Repeat([]T{element}, count)
}

// extremes are integers that are always out of range.
func extremes() []int {
	return []int{-1, 1000000, math.MaxInt32 + 1, math.MinInt, math.MaxInt}
}

// chapterRule is the rule R of the chapter.
func chapterRule() splice.Rule {
	return splice.Rule{Strands: 3, Over: 1, Under: 1, Full: 2, Taper: 1}
}

// chapterTable is the table of the chapter.
func chapterTable() []api.Point {
	return []api.Point{{X: "0", Y: "1/2"}, {X: "2", Y: "4/5"}, {X: "3", Y: "9/10"}}
}

// splicing is a rule with a state, a tuck, and what else functions take with them.
type splicing struct {
	r      splice.Rule
	s      splice.State
	t      splice.Tuck
	l      []splice.Tuck
	strand int
	table  []api.Point
}

// chapterSplicing is the splice of the chapter after the first tuck.
func chapterSplicing() splicing {
	return splicing{
		r: chapterRule(), s: splice.State{Tucks: []int{1, 0, 0}, Gaps: []int{2, 1, 2}}, t: splice.Tuck{Strand: 1, Over: 1, Under: 1},
		l: roundsOf(chapterRule(), 2), strand: 2, table: chapterTable(),
	}
}

// roundsOf returns the tucks of some rounds in which each strand goes as the rule has it.
func roundsOf(r splice.Rule, rounds int) []splice.Tuck {
	var l []splice.Tuck
	for range rounds {
		for strand := range r.Strands {
			l = append(l, splice.Tuck{Strand: strand, Over: r.Over, Under: r.Under})
		}
	}
	return l
}

// randomRule returns a rule with few tucks.
func randomRule(source *rand.Rand) splice.Rule {
	strands := 2 + source.Intn(7)
	return splice.Rule{Strands: strands, Over: source.Intn(strands), Under: 1 + source.Intn(strands-1), Full: 1 + source.Intn(3), Taper: source.Intn(4)}
}

// randomTucks returns tucks, most of which go as the rule has it for a full tuck or for a tapered one.
func randomTucks(source *rand.Rand, r splice.Rule, count int) []splice.Tuck {
	var l []splice.Tuck
	for i := range count {
		t := splice.Tuck{Strand: i % r.Strands, Over: r.Over, Under: r.Under}
		if source.Intn(3) == 0 {
			t.Strand = source.Intn(r.Strands)
		}
		if source.Intn(3) == 0 {
			t.Under = 1 + source.Intn(r.Under)
		}
		switch source.Intn(20) {
		case 0:
			t.Over = source.Intn(9)
		case 1:
			t.Under = source.Intn(9)
		}
		l = append(l, t)
	}
	return l
}

// manySplicings returns rules of all numbers of strands with states that tucks reach, and with tucks.
func manySplicings() []splicing {
	source := seeded()
	list := []splicing{chapterSplicing()}
	for i := range 800 {
		r := randomRule(source)
		if i%20 == 0 {
			r.Full, r.Taper = 1+source.Intn(20), source.Intn(21)
		}
		l := randomTucks(source, r, source.Intn(min(257, 2*r.Strands*(r.Full+r.Taper))))
		tucks, gaps, _ := replayIn(r, l)
		list = append(list, splicing{
			r: r, s: splice.State{Tucks: tucks, Gaps: gaps}, t: randomTucks(source, r, 1)[0], l: l, strand: source.Intn(r.Strands), table: chapterTable(),
		})
	}
	return list
}

// badRules returns rules with an error.
func badRules() []splice.Rule {
	good := splice.Rule{Strands: 4, Over: 1, Under: 2, Full: 2, Taper: 1}
	var list []splice.Rule
	add := func(set func(r *splice.Rule, wrong int), wrong ...int) {
		for _, x := range append(extremes(), wrong...) {
			r := good
			set(&r, x)
			list = append(list, r)
		}
	}
	add(func(r *splice.Rule, wrong int) { r.Strands = wrong }, 0, 1, 9)
	add(func(r *splice.Rule, wrong int) { r.Over = wrong }, 4)
	add(func(r *splice.Rule, wrong int) { r.Under = wrong }, 0, 4)
	add(func(r *splice.Rule, wrong int) { r.Full = wrong }, 0, 21)
	add(func(r *splice.Rule, wrong int) { r.Taper = wrong }, 21)
	return append(list, splice.Rule{})
}

// badState is a state with its error for the rule of the chapter.
type badState struct {
	s splice.State
	e api.Errno
}

// badStates returns states with each error for the rule of the chapter.
func badStates() []badState {
	var list []badState
	add := func(e api.Errno, tucks, gaps []int) {
		list = append(list, badState{splice.State{Tucks: tucks, Gaps: gaps}, e})
	}
	add(api.ErrShape, nil, nil)
	add(api.ErrShape, []int{0, 0, 0}, nil)
	add(api.ErrShape, nil, []int{0, 1, 2})
	add(api.ErrShape, []int{0, 0}, []int{0, 1, 2})
	add(api.ErrShape, []int{0, 0, 0, 0}, []int{0, 1, 2})
	add(api.ErrShape, []int{0, 0, 0}, []int{0, 1})
	add(api.ErrShape, []int{9, 0, 0}, []int{0, 1, 2, 2})
	add(api.ErrShape, []int{2, 0}, []int{0, 0})
	add(api.ErrShape, make([]int, 100000), make([]int, 100000))
	for _, wrong := range append(extremes(), 4) {
		for place := range 3 {
			tucks := []int{2, 0, 0}
			tucks[place] = wrong
			add(api.ErrRange, tucks, []int{0, 0, 0})
		}
	}
	for _, wrong := range append(extremes(), 3) {
		for place := range 3 {
			gaps := []int{1, 1, 1}
			gaps[place] = wrong
			add(api.ErrRange, []int{2, 0, 0}, gaps)
		}
	}
	for _, tucks := range [][]int{{2, 0, 0}, {0, 2, 2}, {0, 1, 2}, {3, 3, 1}, {3, 2, 1}, {0, 0, 3}} {
		add(api.ErrState, tucks, []int{0, 1, 2})
	}
	for _, gaps := range [][]int{{0, 0, 2}, {0, 1, 0}, {2, 1, 1}, {1, 1, 1}} {
		add(api.ErrState, []int{0, 0, 0}, gaps)
		add(api.ErrState, []int{3, 3, 3}, gaps)
	}
	add(api.ErrState, []int{1, 0, 1}, []int{2, 1, 2})
	add(api.ErrState, []int{2, 3, 3}, []int{2, 1, 1})
	return list
}

// badTucks returns tucks with each error for three strands.
func badTucks() []struct {
	t splice.Tuck
	e api.Errno
} {
	type bad = struct {
		t splice.Tuck
		e api.Errno
	}
	var list []bad
	for _, wrong := range append(extremes(), 3) {
		list = append(list, bad{splice.Tuck{Strand: wrong, Over: 1, Under: 1}, api.ErrUnknown}, bad{splice.Tuck{Strand: wrong, Over: -1, Under: 9}, api.ErrUnknown})
	}
	for _, wrong := range append(extremes(), 9) {
		list = append(list, bad{splice.Tuck{Strand: 1, Over: wrong, Under: 1}, api.ErrRange}, bad{splice.Tuck{Strand: 1, Over: 1, Under: wrong}, api.ErrRange})
	}
	return list
}

// faultsOfRules returns what makes a rule wrong.
func faultsOfRules() []fault[splicing] {
	var list []fault[splicing]
	for _, bad := range badRules() {
		list = append(list, fault[splicing]{func(x *splicing) { x.r = bad }, api.ErrRange})
	}
	return list
}

// faultsOfStates returns what makes a rule or its state wrong.
func faultsOfStates() []fault[splicing] {
	list := faultsOfRules()
	for _, bad := range badStates() {
		list = append(list, fault[splicing]{func(x *splicing) { x.s = bad.s }, bad.e})
	}
	return list
}

// faultsOfTucks returns what makes a rule, its state or a tuck wrong.
func faultsOfTucks() []fault[splicing] {
	list := faultsOfStates()
	for _, bad := range badTucks() {
		list = append(list, fault[splicing]{func(x *splicing) { x.t = bad.t }, bad.e})
	}
	return list
}

// badSlings returns slings with an error.
func badSlings() []splice.Sling {
	var list []splice.Sling
	for _, wrong := range append(extremes(), 0, 5) {
		list = append(list, splice.Sling{Legs: wrong, Height: 4, Spread: 3})
	}
	for _, wrong := range append(extremes(), 0, 100001) {
		list = append(list, splice.Sling{Legs: 2, Height: wrong, Spread: 3})
	}
	for _, wrong := range append(extremes(), 100001) {
		list = append(list, splice.Sling{Legs: 2, Height: 4, Spread: wrong})
	}
	return list
}

// lift is a sling with a load and a limit.
type lift struct {
	s     splice.Sling
	load  api.Rat
	limit api.Rat
}

// faultsOfLoads returns what makes a sling or its load wrong.
func faultsOfLoads() []fault[lift] {
	var list []fault[lift]
	for _, bad := range badSlings() {
		list = append(list, fault[lift]{func(x *lift) { x.s = bad }, api.ErrRange})
	}
	for _, bad := range badAmounts() {
		list = append(list, fault[lift]{func(x *lift) { x.load = bad.text }, bad.e})
	}
	return list
}

// faultsOfLifts returns what makes a sling, its load or the limit wrong.
func faultsOfLifts() []fault[lift] {
	list := faultsOfLoads()
	for _, bad := range badAmounts() {
		list = append(list, fault[lift]{func(x *lift) { x.limit = bad.text }, bad.e})
	}
	return list
}

// manySlings returns slings of all numbers of legs, steep and flat ones.
func manySlings() []splice.Sling {
	source := seeded()
	var list []splice.Sling
	for legs := 1; legs <= 4; legs++ {
		for _, height := range []int{1, 3, 4, 12, 99999, 100000} {
			for _, spread := range []int{0, 1, 3, 5, 9, 75000, 100000} {
				list = append(list, splice.Sling{Legs: legs, Height: height, Spread: spread})
			}
		}
		for range 60 {
			list = append(list, splice.Sling{Legs: legs, Height: 1 + source.Intn(100000), Spread: source.Intn(100001)})
			list = append(list, splice.Sling{Legs: legs, Height: 1 + source.Intn(20), Spread: source.Intn(20)})
		}
	}
	return list
}

// badNet is a net with its error.
type badNet struct {
	n splice.Net
	e api.Errno
}

// badNets returns nets with each error.
func badNets() []badNet {
	var list []badNet
	add := func(e api.Errno, first int, rows ...splice.Row) {
		list = append(list, badNet{splice.Net{First: first, Rows: rows}, e})
	}
	for _, first := range append(extremes(), 0, 501) {
		add(api.ErrRange, first)
		add(api.ErrRange, first, repeated(65, splice.Row{})...)
		add(api.ErrRange, first, splice.Row{Less: 400})
	}
	add(api.ErrMany, 9, repeated(65, splice.Row{})...)
	add(api.ErrMany, 9, repeated(65, splice.Row{More: -1})...)
	add(api.ErrMany, 9, repeated(100000, splice.Row{More: 400})...)
	for _, wrong := range append(extremes(), 501) {
		add(api.ErrRange, 9, splice.Row{More: wrong})
		add(api.ErrRange, 9, splice.Row{Less: wrong})
		add(api.ErrRange, 9, splice.Row{More: wrong, Less: 400})
		add(api.ErrRange, 9, splice.Row{More: 400, Less: wrong})
		add(api.ErrRange, 9, splice.Row{More: 1}, splice.Row{Less: wrong}, splice.Row{Less: 400})
	}
	add(api.ErrRule, 3, splice.Row{Less: 2})
	add(api.ErrRule, 3, splice.Row{More: 4})
	add(api.ErrRule, 3, splice.Row{More: 2, Less: 1})
	add(api.ErrRule, 4, splice.Row{More: 1, Less: 2}, splice.Row{More: -1})
	add(api.ErrRule, 1, splice.Row{Less: 1})
	add(api.ErrRule, 500, splice.Row{More: 500, Less: 1})
	add(api.ErrRule, 9, splice.Row{}, splice.Row{More: 9}, splice.Row{Less: 10})
	add(api.ErrRule, 300, splice.Row{More: 301})
	add(api.ErrRange, 300, splice.Row{More: 201})
	add(api.ErrRange, 500, splice.Row{More: 1})
	add(api.ErrRange, 400, splice.Row{More: 300, Less: 50})
	add(api.ErrRange, 250, splice.Row{More: 250}, splice.Row{More: 1}, splice.Row{Less: 400})
	return list
}

// weave is a net with the lengths of a side and of a knot.
type weave struct {
	n    splice.Net
	side api.Rat
	knot api.Rat
}

// chapterNet is the net of the chapter.
func chapterNet() splice.Net {
	return splice.Net{First: 5, Rows: []splice.Row{{More: 1}, {Less: 2}, {}}}
}

// faultsOfNets returns what makes a net wrong.
func faultsOfNets() []fault[weave] {
	var list []fault[weave]
	for _, bad := range badNets() {
		list = append(list, fault[weave]{func(x *weave) { x.n = bad.n }, bad.e})
	}
	return list
}

// manyNets returns nets without errors.
func manyNets() []splice.Net {
	source := seeded()
	list := []splice.Net{
		chapterNet(), {First: 1}, {First: 500, Rows: repeated(64, splice.Row{})}, {First: 500, Rows: []splice.Row{{Less: 250}, {More: 250}, {More: 166, Less: 167}}},
		{First: 1, Rows: []splice.Row{{More: 1}, {More: 2}, {More: 4}, {Less: 4}, {Less: 2}, {Less: 1}, {}}},
	}
	for range 300 {
		n := splice.Net{First: 1 + source.Intn(500)}
		meshes := n.First
		for range source.Intn(65) {
			row := splice.Row{Less: source.Intn(meshes/2 + 1)}
			row.More = source.Intn(min(meshes-2*row.Less, 500-meshes+row.Less) + 1)
			n.Rows = append(n.Rows, row)
			meshes += row.More - row.Less
		}
		list = append(list, n)
	}
	return list
}
