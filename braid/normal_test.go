package braid_test

import (
	"math"
	"slices"
	"testing"

	"becket/api"
	"becket/braid"
)

// The tests of P5.2.

// wordOfPerm returns the word of a simple braid, from its definition.
func wordOfPerm(p []int) []int {
	strands := make([]int, len(p))
	for i := range strands {
		strands[i] = i
	}
	var w []int
	for {
		at := 0
		for at+1 < len(p) && p[strands[at]] < p[strands[at+1]] {
			at++
		}
		if at+1 >= len(p) {
			return w
		}
		w = append(w, at+1)
		strands[at], strands[at+1] = strands[at+1], strands[at]
	}
}

// wordOfHalfTwist returns the word of the half twist.
func wordOfHalfTwist(n int) []int {
	var w []int
	for row := 1; row < n; row++ {
		for letter := row; letter > 0; letter-- {
			w = append(w, letter)
		}
	}
	return w
}

// wordOfForm returns the word of a normal form, of any length.
func wordOfForm(n int, f braid.Form) []int {
	twist := wordOfHalfTwist(n)
	if f.Half < 0 {
		twist = opposite(twist)
	}
	w := slices.Repeat(twist, abs(f.Half))
	for _, factor := range f.Factors {
		w = append(w, wordOfPerm(factor)...)
	}
	return w
}

// crossIn tells whether the strands that begin, or that end, at a place and the next one cross in a simple braid.
func crossIn(p []int, at int, atTheEnd bool) bool {
	left, right := at, at+1
	if atTheEnd {
		left, right = slices.Index(p, at), slices.Index(p, at+1)
	}
	return (left < right) != (p[left] < p[right])
}

// errorOfForm returns the first error of a form, from its definition.
func errorOfForm(n int, f braid.Form) api.Errno {
	if n < 1 || n > 12 || f.Half < -200 || f.Half > 200 || n == 1 && f.Half != 0 {
		return api.ErrRange
	}
	if len(f.Factors) > 200 {
		return api.ErrMany
	}
	for i, p := range f.Factors {
		if len(p) != n {
			return api.ErrShape
		}
		sorted := slices.Sorted(slices.Values(p))
		for place, element := range sorted {
			if element != place {
				return api.ErrPerm
			}
		}
		if crossings := len(wordOfPerm(p)); crossings == 0 || crossings == n*(n-1)/2 {
			return api.ErrForm
		}
		for at := range n - 1 {
			if i > 0 && crossIn(p, at, false) && !crossIn(f.Factors[i-1], at, true) {
				return api.ErrForm
			}
		}
	}
	return api.OK
}

// allPerms returns all permutations of n places.
func allPerms(n int) [][]int {
	if n == 0 {
		return [][]int{nil}
	}
	var list [][]int
	for _, p := range allPerms(n - 1) {
		for at := range n {
			list = append(list, slices.Insert(slices.Clone(p), at, n-1))
		}
	}
	return list
}

func TestSimple(t *testing.T) {
	for _, example := range []struct{ p, wanted []int }{
		{[]int{2, 0, 1}, []int{1, 2}}, {[]int{1, 2, 0}, []int{2, 1}}, {[]int{3, 2, 1, 0}, []int{1, 2, 1, 3, 2, 1}}, {[]int{0, 1}, nil}, {[]int{0}, nil}, {[]int{1, 0}, []int{1}},
		{[]int{1, 0, 3, 2}, []int{1, 3}}, {[]int{0, 3, 2, 1}, []int{2, 3, 2}},
	} {
		w, e := braid.Simple(len(example.p), example.p)
		sameResult(t, w, e, example.wanted, api.OK, example.p)
	}
	source := seeded()
	for n := 1; n <= 12; n++ {
		list := [][]int{source.Perm(n), source.Perm(n), source.Perm(n)}
		if n <= 5 {
			list = allPerms(n)
		}
		for _, p := range list {
			w, e := braid.Simple(n, p)
			sameResult(t, w, e, wordOfPerm(p), api.OK, p)
			same(t, endsIn(n, w), p, w)
		}
		w, _ := braid.Simple(n, endsIn(n, wordOfHalfTwist(n)))
		same(t, w, wordOfHalfTwist(n), n)
	}
}

func TestErrorsOfSimple(t *testing.T) {
	for _, bad := range []struct {
		n int
		p []int
		e api.Errno
	}{
		{0, nil, api.ErrRange}, {0, []int{0}, api.ErrRange}, {13, []int{0, 0}, api.ErrRange}, {-1, nil, api.ErrRange}, {math.MinInt, nil, api.ErrRange},
		{math.MaxInt, nil, api.ErrRange}, {13, []int{0, 1, 2, 3, 4, 5, 6, 7, 8, 9, 10, 11, 12}, api.ErrRange},
		{3, []int{0, 1}, api.ErrShape}, {3, nil, api.ErrShape}, {3, []int{9, 9, 9, 9}, api.ErrShape}, {2, make([]int, 100000), api.ErrShape}, {1, nil, api.ErrShape},
		{2, []int{1, 1}, api.ErrPerm}, {2, []int{1, 2}, api.ErrPerm}, {3, []int{0, 1, -1}, api.ErrPerm}, {3, []int{0, math.MaxInt, math.MinInt}, api.ErrPerm}, {1, []int{1}, api.ErrPerm},
	} {
		w, e := braid.Simple(bad.n, bad.p)
		sameResult(t, w, e, []int{}, bad.e, bad.n, len(bad.p))
	}
}

// formOf is a form on so many strands.
type formOf struct {
	n int
	f braid.Form
}

// goodForm returns a form with three factors on 4 strands.
func goodForm() formOf {
	return formOf{4, braid.Form{Half: -3, Factors: [][]int{{2, 1, 0, 3}, {1, 0, 2, 3}, {1, 0, 2, 3}}}}
}

func TestCheckForm(t *testing.T) {
	checkFaults(t, goodForm, []fault[formOf]{
		{func(x *formOf) { x.n = 0 }, api.ErrRange},
		{func(x *formOf) { x.n = 13 }, api.ErrRange},
		{func(x *formOf) { x.n = math.MaxInt }, api.ErrRange},
		{func(x *formOf) { x.n = math.MinInt }, api.ErrRange},
		{func(x *formOf) { x.f.Half = 201 }, api.ErrRange},
		{func(x *formOf) { x.f.Half = -201 }, api.ErrRange},
		{func(x *formOf) { x.f.Half = math.MinInt }, api.ErrRange},
		{func(x *formOf) { x.n = 1 }, api.ErrRange},
		{func(x *formOf) { x.f.Factors = make([][]int, 201) }, api.ErrMany},
		{func(x *formOf) { x.f.Factors = repeated(201, []int{1, 0, 2, 3}) }, api.ErrMany},
		{func(x *formOf) { x.f.Factors[0] = []int{9, 9, 9} }, api.ErrShape},
		{func(x *formOf) { x.f.Factors[0] = []int{1, 0, 0, 3} }, api.ErrPerm},
		{func(x *formOf) { x.f.Factors[0] = []int{0, 1, 2, 3} }, api.ErrForm},
		{func(x *formOf) { x.f.Factors[0] = []int{3, 2, 1, 0} }, api.ErrForm},
		{func(x *formOf) { x.f.Factors[1] = nil }, api.ErrShape},
		{func(x *formOf) { x.f.Factors[1] = []int{1, 0, 2, 4} }, api.ErrPerm},
		{func(x *formOf) { x.f.Factors[1] = []int{0, 1, 2, 3} }, api.ErrForm},
		{func(x *formOf) { x.f.Factors[1] = []int{0, 1, 3, 2} }, api.ErrForm},
		{func(x *formOf) { x.f.Factors[2] = []int{0, 2, 1, 3} }, api.ErrForm},
		{func(x *formOf) { x.f.Factors[2] = []int{3, 2, 1, 0} }, api.ErrForm},
	}, func(x formOf) api.Errno { return braid.CheckForm(x.n, x.f) })
	for _, example := range []struct {
		n int
		f braid.Form
		e api.Errno
	}{
		{1, braid.Form{}, api.OK}, {1, braid.Form{Half: 1}, api.ErrRange}, {1, braid.Form{Half: -1}, api.ErrRange}, {1, braid.Form{Factors: [][]int{{0}}}, api.ErrForm},
		{2, braid.Form{Half: 200}, api.OK}, {2, braid.Form{Half: -200}, api.OK}, {2, braid.Form{Factors: [][]int{{1, 0}}}, api.ErrForm}, {2, braid.Form{Factors: [][]int{{0, 1}}}, api.ErrForm},
		{3, braid.Form{Half: 200, Factors: repeated(200, []int{1, 0, 2})}, api.OK}, {12, braid.Form{Half: -200}, api.OK},
		{3, braid.Form{Factors: [][]int{{1, 2, 0}, {2, 0, 1}}}, api.OK}, {3, braid.Form{Factors: [][]int{{2, 0, 1}, {2, 0, 1}}}, api.ErrForm},
		{3, braid.Form{Factors: [][]int{{1, 0, 2}, {0, 2, 1}, {0, 1}}}, api.ErrForm},
	} {
		same(t, braid.CheckForm(example.n, example.f), example.e, example)
	}
}

func TestCheckFormOfMany(t *testing.T) {
	source := seeded()
	good := 0
	for range 20000 {
		n := 2 + source.Intn(4)
		f := braid.Form{Half: source.Intn(9) - 4}
		for range source.Intn(4) {
			p := source.Perm(n)
			if source.Intn(20) == 0 {
				p[source.Intn(n)] = source.Intn(n)
			}
			f.Factors = append(f.Factors, p)
		}
		wanted := errorOfForm(n, f)
		same(t, braid.CheckForm(n, f), wanted, n, f)
		if wanted == api.OK && len(f.Factors) > 1 {
			good++
		}
	}
	same(t, good > 1000, true, good)
}

func TestNormalOfExamples(t *testing.T) {
	for _, example := range []struct {
		n int
		w []int
		f braid.Form
	}{
		{3, []int{1, 2, 1}, braid.Form{Half: 1}}, {3, []int{2, 1, 2}, braid.Form{Half: 1}}, {3, []int{1, 2, 1, 2, 1, 2}, braid.Form{Half: 2}},
		{3, []int{-1}, braid.Form{Half: -1, Factors: [][]int{{2, 0, 1}}}}, {3, []int{1, -2}, braid.Form{Half: -1, Factors: [][]int{{0, 2, 1}, {1, 2, 0}}}},
		{3, []int{1}, braid.Form{Factors: [][]int{{1, 0, 2}}}}, {3, []int{1, 1}, braid.Form{Factors: [][]int{{1, 0, 2}, {1, 0, 2}}}}, {3, []int{1, -1}, braid.Form{}},
		{4, []int{1, 3}, braid.Form{Factors: [][]int{{1, 0, 3, 2}}}}, {4, []int{1, 2, 1, 3, 2, 1}, braid.Form{Half: 1}}, {2, []int{-1, -1, -1}, braid.Form{Half: -3}},
		{2, repeated(200, 1), braid.Form{Half: 200}}, {2, repeated(200, -1), braid.Form{Half: -200}}, {1, nil, braid.Form{}}, {12, nil, braid.Form{}},
		{3, repeated(200, 2), braid.Form{Factors: repeated(200, []int{0, 2, 1})}},
		{12, append(wordOfHalfTwist(12), opposite(wordOfHalfTwist(12))...), braid.Form{}}, {12, slices.Repeat(wordOfHalfTwist(12), 3), braid.Form{Half: 3}},
	} {
		f, e := braid.Normal(example.n, example.w)
		sameResult(t, f, e, example.f, api.OK, example.n, example.w)
	}
}

// A form without errors whose word is equal to a word is its only normal form.
func checkNormal(t *testing.T, n int, w []int) {
	t.Helper()
	f, e := braid.Normal(n, w)
	same(t, []any{e, errorOfForm(n, f), braid.CheckForm(n, f)}, []any{api.OK, api.OK, api.OK}, n, w, f)
	same(t, equalIn(n, wordOfForm(n, f), w), true, n, w, f)
}

func TestNormalOfMany(t *testing.T) {
	for _, w := range append(allWords(3, 5), allWords(4, 3)...) {
		checkNormal(t, 4, w)
	}
	source := seeded()
	for n := 1; n <= 12; n++ {
		for range 30 {
			checkNormal(t, n, randomWord(source, n, source.Intn(40)))
		}
		long := randomWord(source, n, 200)
		checkNormal(t, n, long)
		for i := range long {
			long[i] = abs(long[i])
		}
		checkNormal(t, n, long)
		checkNormal(t, n, opposite(long))
	}
}

func TestSpell(t *testing.T) {
	w, e := braid.Spell(3, braid.Form{Half: -1, Factors: [][]int{{0, 2, 1}, {1, 2, 0}}})
	sameResult(t, w, e, []int{-1, -2, -1, 2, 2, 1}, api.OK)
	w, e = braid.Spell(4, braid.Form{Half: -1})
	sameResult(t, w, e, []int{-1, -2, -3, -1, -2, -1}, api.OK, "the inverse has the letters in the other order")
	w, e = braid.Spell(3, braid.Form{Half: 2})
	sameResult(t, w, e, []int{1, 2, 1, 1, 2, 1}, api.OK)
	w, e = braid.Spell(1, braid.Form{})
	sameResult(t, w, e, []int{}, api.OK)
	for _, example := range []struct {
		n int
		f braid.Form
		e api.Errno
	}{
		{3, braid.Form{Half: 66}, api.OK}, {3, braid.Form{Half: 67}, api.ErrMany}, {3, braid.Form{Half: -66}, api.OK}, {3, braid.Form{Half: -67}, api.ErrMany},
		{3, braid.Form{Half: 66, Factors: [][]int{{2, 0, 1}}}, api.OK}, {3, braid.Form{Half: 66, Factors: [][]int{{2, 0, 1}, {0, 2, 1}}}, api.ErrMany},
		{2, braid.Form{Half: 200}, api.OK}, {12, braid.Form{Half: 200}, api.ErrMany}, {12, braid.Form{Half: 3}, api.OK}, {12, braid.Form{Half: 4}, api.ErrMany},
		{3, braid.Form{Factors: repeated(200, []int{1, 0, 2})}, api.OK}, {3, braid.Form{Half: 1, Factors: repeated(200, []int{1, 0, 2})}, api.ErrMany},
		{3, braid.Form{Half: 201}, api.ErrRange}, {3, braid.Form{Half: 200, Factors: [][]int{{0, 1, 2}}}, api.ErrForm}, {0, braid.Form{}, api.ErrRange},
		{3, braid.Form{Half: 100, Factors: [][]int{{0, 1}}}, api.ErrShape}, {3, braid.Form{Factors: [][]int{{0, 1, 1}}}, api.ErrPerm}, {3, braid.Form{Factors: make([][]int, 201)}, api.ErrMany},
	} {
		wanted := []int(nil)
		if example.e == api.OK {
			wanted = wordOfForm(example.n, example.f)
		}
		w, e := braid.Spell(example.n, example.f)
		sameResult(t, w, e, wanted, example.e, example)
	}
	source := seeded()
	spelt := 0
	for range 500 {
		n := 1 + source.Intn(12)
		f, _ := braid.Normal(n, randomWord(source, n, source.Intn(20)))
		wanted, code := wordOfForm(n, f), api.OK
		if len(wanted) > 200 {
			wanted, code = nil, api.ErrMany
		} else {
			spelt++
		}
		w, e := braid.Spell(n, f)
		sameResult(t, w, e, wanted, code, n, f)
	}
	same(t, spelt > 100, true, spelt)
}

func TestEqual(t *testing.T) {
	for _, example := range []struct {
		n     int
		a, b  []int
		equal bool
	}{
		{3, []int{1, 2, 1}, []int{2, 1, 2}, true}, {3, []int{1, 2}, []int{2, 1}, false}, {4, []int{1, -3}, []int{-3, 1}, true}, {3, []int{1}, []int{-1}, false},
		{3, nil, nil, true}, {1, nil, nil, true}, {2, []int{1, -1}, nil, true}, {3, []int{1, -2, 1, -2, 1, -2}, nil, false}, {3, []int{1, 2, -1}, []int{-2, 1, 2}, true},
		{2, repeated(200, 1), repeated(200, 1), true}, {2, repeated(200, 1), repeated(198, 1), false},
	} {
		equal, e := braid.Equal(example.n, example.a, example.b)
		sameResult(t, equal, e, example.equal, api.OK, example)
	}
	a, b := bigelow()
	equal, e := braid.Equal(5, a, b)
	sameResult(t, equal, e, false, api.OK)
	words := allWords(3, 4)
	source := seeded()
	for range 10000 {
		a, b := words[source.Intn(len(words))], words[source.Intn(len(words))]
		equal, e := braid.Equal(3, a, b)
		sameResult(t, equal, e, equalIn(3, a, b), api.OK, a, b)
	}
	for n := 1; n <= 12; n++ {
		for range 20 {
			w := randomWord(source, n, source.Intn(100))
			other := disguised(source, n, w, 2000, 200)
			equal, e := braid.Equal(n, w, other)
			sameResult(t, equal, e, true, api.OK, n, w, other)
			if n > 1 && len(other) < 200 {
				at := source.Intn(len(other) + 1)
				longer := slices.Insert(slices.Clone(other), at, randomWord(source, n, 1)...)
				equal, e := braid.Equal(n, w, longer)
				sameResult(t, equal, e, false, api.OK, n, w, longer)
			}
		}
	}
}
