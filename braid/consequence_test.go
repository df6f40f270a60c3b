package braid_test

import (
	"math"
	"math/big"
	"math/rand"
	"reflect"
	"slices"
	"strings"
	"testing"

	"becket/api"
	"becket/braid"
	"becket/number"
)

// The tests of P5.5, and of P1 for the package.

func TestAWordEqualsThatOfItsForm(t *testing.T) {
	source := seeded()
	spelt := 0
	for range 300 {
		n := 1 + source.Intn(12)
		w := randomWord(source, n, source.Intn(30))
		f, _ := braid.Normal(n, w)
		word, e := braid.Spell(n, f)
		if e != api.OK {
			continue
		}
		spelt++
		equal, e := braid.Equal(n, w, word)
		sameResult(t, equal, e, true, api.OK, n, w)
		again, _ := braid.Normal(n, word)
		same(t, again, f, n, w)
	}
	same(t, spelt > 100, true, spelt)
}

func TestMovesKeepTheForm(t *testing.T) {
	source := seeded()
	kept := map[string]int{}
	for range 60 {
		n := 2 + source.Intn(11)
		w := randomWord(source, n, source.Intn(20))
		wanted, _ := braid.Normal(n, w)
		for range 200 {
			m := braid.Move{Kind: []string{"insert", "cancel", "swap", "turn"}[source.Intn(4)], At: source.Intn(len(w) + 1)}
			if m.Kind == "insert" {
				m.Letter = randomWord(source, n, 1)[0]
			}
			if next, e := braid.Moved(n, w, []braid.Move{m}); e == api.OK && len(next) < 60 {
				w = next
				kept[m.Kind]++
				f, _ := braid.Normal(n, w)
				same(t, f, wanted, n, w, m)
			}
		}
	}
	for _, kind := range []string{"insert", "cancel", "swap", "turn"} {
		same(t, kept[kind] > 50, true, kind, kept[kind])
	}
}

func TestEqualWordsHaveTheSameImages(t *testing.T) {
	source := seeded()
	equals := 0
	for i := range 2000 {
		n := 1 + i%4
		a := randomWord(source, n, source.Intn(7))
		b := randomWord(source, n, source.Intn(7))
		if i%3 == 0 {
			b = disguised(source, n, a, 100, 12)
		}
		equal, _ := braid.Equal(n, a, b)
		imagesOfA, e := braid.Free(n, a)
		same(t, e, api.OK)
		imagesOfB, e := braid.Free(n, b)
		same(t, e, api.OK)
		same(t, slices.EqualFunc(imagesOfA, imagesOfB, slices.Equal), equal, n, a, b)
		if equal {
			equals++
		}
	}
	same(t, equals > 500 && equals < 1900, true, equals)
}

func TestAProofOrARefutation(t *testing.T) {
	source := seeded()
	for i := range 1000 {
		n := 1 + i%5
		a, b := randomWord(source, n, source.Intn(5)), randomWord(source, n, source.Intn(5))
		if i%2 == 0 {
			b = disguised(source, n, a, 100, 20)
		}
		equal, _ := braid.Equal(n, a, b)
		moves, errorOfProof := braid.Prove(n, a, b)
		kind, errorOfRefutation := braid.Refute(n, a, b)
		if equal {
			same(t, []api.Errno{errorOfProof, errorOfRefutation}, []api.Errno{api.OK, api.ErrNone}, n, a, b)
			same(t, braid.CheckMoves(n, a, b, moves), api.OK, n, a, b)
		} else {
			same(t, []api.Errno{errorOfProof, errorOfRefutation}, []api.Errno{api.ErrInfeasible, api.OK}, n, a, b)
			same(t, braid.CheckRefute(n, a, b, kind), api.OK, n, a, b)
			same(t, braid.CheckRefute(n, a, b, "form"), api.OK, n, a, b)
		}
	}
}

func TestAWordAndItsInverse(t *testing.T) {
	source := seeded()
	for n := 1; n <= 12; n++ {
		for _, length := range []int{0, 1, 10, 100} {
			w := randomWord(source, n, length)
			inverse, _ := braid.Inverse(n, w)
			both, e := braid.Concat(n, w, inverse)
			same(t, e, api.OK, n, w)
			equal, e := braid.Equal(n, both, nil)
			sameResult(t, equal, e, true, api.OK, n, w)
			power, _ := braid.Power(n, w, -1)
			same(t, power, inverse, n, w)
		}
	}
}

func TestInvariantsOfTwoWords(t *testing.T) {
	source := seeded()
	for range 200 {
		n := 1 + source.Intn(12)
		a, b := randomWord(source, n, source.Intn(20)), randomWord(source, n, source.Intn(20))
		both, _ := braid.Concat(n, a, b)
		exponentOfA, _ := braid.Exponent(n, a)
		exponentOfB, _ := braid.Exponent(n, b)
		exponent, _ := braid.Exponent(n, both)
		same(t, exponent, exponentOfA+exponentOfB, n, a, b)
		permOfA, _ := braid.Perm(n, a)
		permOfB, _ := braid.Perm(n, b)
		perm, _ := braid.Perm(n, both)
		composed, e := number.Compose(permOfA, permOfB)
		sameResult(t, perm, e, composed, api.OK, n, a, b)
		linksOfA, _ := braid.Link(n, a)
		linksOfB, _ := braid.Link(n, b)
		links, _ := braid.Link(n, both)
		for i := range n {
			for k := range n {
				same(t, links[i][k], linksOfA[i][k]+linksOfB[permOfA[i]][permOfA[k]], n, a, b)
			}
		}
		x := api.Rat(randomNumber(source, 5).RatString())
		burauOfA, _ := braid.Burau(n, a, x)
		burauOfB, _ := braid.Burau(n, b, x)
		burau, _ := braid.Burau(n, both, x)
		for i, row := range productOf(rationals(burauOfA), rationals(burauOfB)) {
			for k, wanted := range row {
				same(t, burau[i][k], api.Rat(wanted.RatString()), n, a, b)
			}
		}
	}
}

// rationals returns the numbers of a matrix of texts.
func rationals(rows [][]api.Rat) [][]*big.Rat {
	list := unit(len(rows))
	for i, row := range rows {
		for k, text := range row {
			list[i][k] = rational(text)
		}
	}
	return list
}

func TestMirroredAndFlippedWordsAreEqual(t *testing.T) {
	source := seeded()
	for range 200 {
		n := 1 + source.Intn(12)
		a := randomWord(source, n, source.Intn(40))
		b := disguised(source, n, a, 1000, 80)
		for _, change := range []func(int, []int) ([]int, api.Errno){braid.Mirror, braid.Flip, braid.Inverse, braid.Reduce} {
			changedA, _ := change(n, a)
			changedB, _ := change(n, b)
			equal, e := braid.Equal(n, changedA, changedB)
			sameResult(t, equal, e, true, api.OK, n, a, b)
		}
	}
}

// call is the arguments of a call of each function.
type call struct {
	n     int
	a, b  []int
	k     int
	p     []int
	f     braid.Form
	t     api.Rat
	moves []braid.Move
	kind  string
}

// outcome is what a call returns: its result, if it has one, and its error.
type outcome struct {
	result any
	e      api.Errno
}

// callAll calls each function of the package.
func callAll(x call) map[string]outcome {
	all := map[string]outcome{}
	add := func(name string, e api.Errno, result any) { all[name] = outcome{result, e} }
	add("CheckWord", braid.CheckWord(x.n, x.a), nil)
	add("CheckForm", braid.CheckForm(x.n, x.f), nil)
	add("CheckMoves", braid.CheckMoves(x.n, x.a, x.b, x.moves), nil)
	add("CheckRefute", braid.CheckRefute(x.n, x.a, x.b, x.kind), nil)
	words := map[string]func(int, []int) ([]int, api.Errno){
		"Perm": braid.Perm, "Reduce": braid.Reduce, "Inverse": braid.Inverse, "Mirror": braid.Mirror, "Flip": braid.Flip,
	}
	for name, function := range words {
		w, e := function(x.n, x.a)
		add(name, e, w)
	}
	lists := map[string]func(int, []int) ([][]int, api.Errno){"Link": braid.Link, "Free": braid.Free, "Components": braid.Components}
	for name, function := range lists {
		l, e := function(x.n, x.a)
		add(name, e, l)
	}
	exponent, e := braid.Exponent(x.n, x.a)
	add("Exponent", e, exponent)
	concat, e := braid.Concat(x.n, x.a, x.b)
	add("Concat", e, concat)
	power, e := braid.Power(x.n, x.a, x.k)
	add("Power", e, power)
	simple, e := braid.Simple(x.n, x.p)
	add("Simple", e, simple)
	form, e := braid.Normal(x.n, x.a)
	add("Normal", e, form)
	word, e := braid.Spell(x.n, x.f)
	add("Spell", e, word)
	equal, e := braid.Equal(x.n, x.a, x.b)
	add("Equal", e, equal)
	burau, e := braid.Burau(x.n, x.a, x.t)
	add("Burau", e, burau)
	moved, e := braid.Moved(x.n, x.a, x.moves)
	add("Moved", e, moved)
	moves, e := braid.Prove(x.n, x.a, x.b)
	add("Prove", e, moves)
	kind, e := braid.Refute(x.n, x.a, x.b)
	add("Refute", e, kind)
	return all
}

// takesWord tells whether a function has a word as an argument, takesTwoWords whether it has two.
func takesWord(name string) bool {
	return name != "CheckForm" && name != "Simple" && name != "Spell"
}

func takesTwoWords(name string) bool {
	return slices.Contains([]string{"CheckMoves", "CheckRefute", "Concat", "Equal", "Prove", "Refute"}, name)
}

// isNothing tells whether a result is the zero value of its type.
func isNothing(result any) bool {
	value := reflect.ValueOf(result)
	if value.Kind() == reflect.Slice {
		return value.Len() == 0
	}
	return result == nil || value.IsZero()
}

// anyInt returns an integer that is mostly small.
func anyInt(source *rand.Rand) int {
	if source.Intn(40) == 0 {
		return []int{math.MinInt, math.MaxInt, 1 << 32, -1 << 31, 201}[source.Intn(5)]
	}
	return source.Intn(9) - 4
}

func anyInts(source *rand.Rand, most int) []int {
	var list []int
	for range source.Intn(most + 1) {
		list = append(list, anyInt(source))
	}
	return list
}

func anyCall(source *rand.Rand) call {
	x := call{
		n: anyInt(source), a: anyInts(source, 6), b: anyInts(source, 6), k: anyInt(source), p: anyInts(source, 4), t: []api.Rat{"2", "0", "-1/2", "x"}[source.Intn(4)],
		kind: []string{"exponent", "perm", "link", "burau", "form", "x"}[source.Intn(6)],
	}
	if source.Intn(2) == 0 {
		x.n = 2 + source.Intn(11)
		x.a, x.b = randomWord(source, x.n, source.Intn(8)), randomWord(source, x.n, source.Intn(8))
		x.p = source.Perm(x.n)
		x.f, _ = braid.Normal(x.n, x.b)
	}
	x.f.Half += anyInt(source)
	for range source.Intn(3) {
		x.f.Factors = append(x.f.Factors, anyInts(source, 4))
		x.moves = append(x.moves, braid.Move{Kind: []string{"insert", "cancel", "swap", "turn", "x"}[source.Intn(5)], At: anyInt(source), Letter: anyInt(source)})
	}
	return x
}

// cloned returns arguments that share no memory with these.
func cloned(x call) call {
	x.a, x.b, x.p, x.moves = slices.Clone(x.a), slices.Clone(x.b), slices.Clone(x.p), slices.Clone(x.moves)
	var factors [][]int
	for _, factor := range x.f.Factors {
		factors = append(factors, slices.Clone(factor))
	}
	x.f.Factors = factors
	return x
}

func TestAnyArguments(t *testing.T) {
	source := seeded()
	good := map[string]int{}
	for range 5000 {
		x := anyCall(source)
		given := cloned(x)
		for name, got := range callAll(x) {
			if got.e == api.OK {
				good[name]++
			} else {
				same(t, isNothing(got.result), true, name, got)
			}
		}
		same(t, []any{x.a, x.b, x.p, x.moves, x.f}, []any{given.a, given.b, given.p, given.moves, given.f}, "an argument was changed")
	}
	for name := range callAll(call{}) {
		same(t, good[name] > 10, true, name, good[name])
	}
}

func TestDeterminism(t *testing.T) {
	source := seeded()
	for range 200 {
		x := anyCall(source)
		first := callAll(x)
		for name, got := range callAll(cloned(x)) {
			if name != "Prove" { // which moves are returned is free
				same(t, got, first[name], name, x)
			}
		}
	}
}

// goodCall returns arguments without errors.
func goodCall() call {
	return call{
		n: 4, a: append(make([]int, 0, 9), 1, -3, 2, 1), b: []int{-3, 1, 2, 1}, k: 1, p: []int{2, 0, 1, 3}, t: "2", kind: "form",
		f: braid.Form{Half: 1, Factors: [][]int{{1, 0, 2, 3}, {1, 0, 2, 3}}}, moves: []braid.Move{swap(0)},
	}
}

// wipe changes all memory of a result, also behind the last elements of lists.
func wipe(result any) {
	switch x := result.(type) {
	case []int:
		clear(x[:cap(x)])
	case [][]int:
		for _, list := range x {
			clear(list[:cap(list)])
		}
		clear(x[:cap(x)])
	case [][]api.Rat:
		for _, list := range x {
			clear(list[:cap(list)])
		}
		clear(x[:cap(x)])
	case []braid.Move:
		clear(x[:cap(x)])
	case braid.Form:
		wipe(x.Factors)
	}
}

// Arguments and results share no memory.
func TestMemory(t *testing.T) {
	wanted := callAll(goodCall())
	x := goodCall()
	for name := range wanted {
		first := callAll(x)
		wipe(first[name].result)
		same(t, []any{x.a, x.b, x.p, x.moves, x.f}, []any{goodCall().a, goodCall().b, goodCall().p, goodCall().moves, goodCall().f}, name)
		for other, got := range first {
			if other != name {
				same(t, got.e, wanted[other].e, name, other)
				same(t, got.e != api.OK || got.result == nil || alike(reflect.ValueOf(got.result), reflect.ValueOf(wanted[other].result)), true, name, other)
			}
		}
	}
	for name, got := range wanted {
		code := map[string]api.Errno{"Refute": api.ErrNone, "CheckRefute": api.ErrProof}[name]
		same(t, got.e, code, name)
	}
	separate(t, goodCall())
}

// separate fails the test if two lists of one result share memory.
func separate(t *testing.T, x call) {
	t.Helper()
	for _, name := range []string{"Link", "Free", "Components", "Normal"} {
		get := func() [][]int {
			got := callAll(x)[name].result
			if f, ok := got.(braid.Form); ok {
				return f.Factors
			}
			return got.([][]int)
		}
		lists, wanted := get(), get()
		for i := range lists {
			clear(lists[i][:cap(lists[i])])
			for k := i + 1; k < len(lists); k++ {
				same(t, lists[k], wanted[k], name, i, k)
			}
		}
	}
}

func TestHugeArguments(t *testing.T) {
	huge := make([]int, 1<<20)
	for name, got := range callAll(call{n: 3, a: huge, b: huge, p: huge, t: api.Rat(strings.Repeat("7", 1<<20)), kind: strings.Repeat("x", 1<<20)}) {
		switch {
		case takesWord(name):
			same(t, got.e, api.ErrMany, name)
		case name == "Simple":
			same(t, got.e, api.ErrShape, name)
		}
	}
	same(t, braid.CheckForm(3, braid.Form{Factors: make([][]int, 1<<20)}), api.ErrMany)
	same(t, braid.CheckForm(3, braid.Form{Factors: [][]int{huge}}), api.ErrShape)
}
