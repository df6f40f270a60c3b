package braid_test

import (
	"math"
	"slices"
	"testing"

	"becket/api"
	"becket/braid"
)

// The tests of P5.1.

func TestLimits(t *testing.T) {
	same(t, []int{braid.MaxFree, braid.MaxProve, braid.MaxMoves}, []int{12, 24, 100000})
}

func TestCheckWord(t *testing.T) {
	source := seeded()
	for n := 1; n <= 12; n++ {
		for _, length := range []int{0, 1, 199, 200} {
			w := randomWord(source, n, length)
			same(t, braid.CheckWord(n, w), api.OK, n, w)
		}
		for letter := -15; letter <= 15; letter++ {
			wanted := api.OK
			if letter == 0 || abs(letter) >= n {
				wanted = api.ErrRange
			}
			same(t, braid.CheckWord(n, []int{letter}), wanted, n, letter)
		}
	}
	for _, bad := range badWords() {
		same(t, braid.CheckWord(bad.n, bad.w), bad.e, bad.n, len(bad.w))
	}
}

func TestErrorsOfWords(t *testing.T) {
	for _, bad := range badWords() {
		for name, got := range callAll(call{n: bad.n, a: bad.w, t: "x", kind: "x", k: math.MinInt, moves: repeated(1, braid.Move{Kind: "x"})}) {
			if takesWord(name) {
				same(t, got.e, bad.e, name, bad.n)
			}
		}
		second := api.OK
		if braid.CheckWord(bad.n, nil) == api.OK {
			second = bad.e
		}
		for name, got := range callAll(call{n: bad.n, a: nil, b: bad.w, kind: "x", moves: repeated(1, braid.Move{Kind: "x"})}) {
			if takesTwoWords(name) && second != api.OK {
				same(t, got.e, second, name, bad.n)
			}
		}
	}
	// The error of the first word comes before that of the second one.
	for name, got := range callAll(call{n: 3, a: make([]int, 201), b: []int{0}}) {
		if takesTwoWords(name) {
			same(t, got.e, api.ErrMany, name)
		}
	}
	for name, got := range callAll(call{n: 3, a: []int{0}, b: make([]int, 201)}) {
		if takesTwoWords(name) {
			same(t, got.e, api.ErrRange, name)
		}
	}
}

func TestPerm(t *testing.T) {
	for _, example := range []struct {
		n      int
		w      []int
		wanted []int
	}{
		{3, []int{1, 2, 1}, []int{2, 1, 0}}, {3, []int{1, -2}, []int{2, 0, 1}}, {3, []int{2, 1}, []int{1, 2, 0}}, {1, nil, []int{0}}, {2, []int{1, 1}, []int{0, 1}},
	} {
		p, e := braid.Perm(example.n, example.w)
		sameResult(t, p, e, example.wanted, api.OK, example.n, example.w)
	}
	source := seeded()
	for n := 1; n <= 12; n++ {
		for _, length := range []int{0, 1, 2, 5, 20, 200} {
			w := randomWord(source, n, length)
			p, e := braid.Perm(n, w)
			sameResult(t, p, e, endsIn(n, w), api.OK, n, w)
		}
	}
}

func TestExponent(t *testing.T) {
	source := seeded()
	for _, w := range append(allWords(3, 4), repeated(200, 1), repeated(200, -2), randomWord(source, 3, 200)) {
		wanted := 0
		for _, letter := range w {
			wanted += sign(letter)
		}
		exponent, e := braid.Exponent(3, w)
		sameResult(t, exponent, e, wanted, api.OK, w)
	}
}

// reducedIn takes opposite neighbours away as long as there are some.
func reducedIn(w []int) []int {
	w = slices.Clone(w)
	for at := 0; at+1 < len(w); at++ {
		if w[at] == -w[at+1] {
			w, at = slices.Delete(w, at, at+2), -1
		}
	}
	return w
}

func TestReduce(t *testing.T) {
	w, e := braid.Reduce(3, []int{1, 2, -2, -1, 2})
	sameResult(t, w, e, []int{2}, api.OK)
	w, e = braid.Reduce(3, []int{1, 1, -2, 2, -1, 2})
	sameResult(t, w, e, []int{1, 2}, api.OK)
	w, e = braid.Reduce(4, []int{1, 3, -1, -3}) // equal to the empty word, but without opposite neighbours
	sameResult(t, w, e, []int{1, 3, -1, -3}, api.OK)
	source := seeded()
	for n := 1; n <= 12; n++ {
		for range 50 {
			w := randomWord(source, n, source.Intn(201))
			got, e := braid.Reduce(n, w)
			sameResult(t, got, e, reducedIn(w), api.OK, w)
		}
	}
	long := slices.Concat(repeated(100, 1), repeated(100, -1))
	w, e = braid.Reduce(2, long)
	sameResult(t, w, e, []int{}, api.OK)
}

func TestInverseMirrorFlip(t *testing.T) {
	w, e := braid.Inverse(3, []int{1, -2})
	sameResult(t, w, e, []int{2, -1}, api.OK)
	w, e = braid.Mirror(3, []int{1, -2})
	sameResult(t, w, e, []int{-1, 2}, api.OK)
	w, e = braid.Flip(4, []int{1, -2, 3, -3})
	sameResult(t, w, e, []int{3, -2, 1, -1}, api.OK)
	source := seeded()
	for n := 1; n <= 12; n++ {
		for _, length := range []int{0, 1, 7, 200} {
			w := randomWord(source, n, length)
			mirror, flip := make([]int, len(w)), make([]int, len(w))
			for i, letter := range w {
				mirror[i], flip[i] = -letter, sign(letter)*(n-abs(letter))
			}
			got, e := braid.Inverse(n, w)
			sameResult(t, got, e, opposite(w), api.OK, n, w)
			got, e = braid.Mirror(n, w)
			sameResult(t, got, e, mirror, api.OK, n, w)
			got, e = braid.Flip(n, w)
			sameResult(t, got, e, flip, api.OK, n, w)
		}
	}
}

func TestConcat(t *testing.T) {
	for _, example := range []struct {
		n            int
		a, b, wanted []int
		e            api.Errno
	}{
		{3, []int{1}, []int{-1, 2}, []int{1, -1, 2}, api.OK}, {3, nil, []int{2}, []int{2}, api.OK}, {3, []int{2}, nil, []int{2}, api.OK}, {1, nil, nil, nil, api.OK},
		{2, repeated(100, 1), repeated(100, 1), repeated(200, 1), api.OK}, {2, repeated(200, -1), nil, repeated(200, -1), api.OK},
		{2, repeated(100, 1), repeated(101, -1), nil, api.ErrMany}, {2, repeated(200, 1), []int{-1}, nil, api.ErrMany}, {2, repeated(200, 1), repeated(200, 1), nil, api.ErrMany},
	} {
		w, e := braid.Concat(example.n, example.a, example.b)
		sameResult(t, w, e, example.wanted, example.e, example)
	}
}

func TestPower(t *testing.T) {
	for _, example := range []struct {
		n      int
		w      []int
		k      int
		wanted []int
		e      api.Errno
	}{
		{3, []int{1, 2}, 2, []int{1, 2, 1, 2}, api.OK}, {3, []int{1, 2}, 1, []int{1, 2}, api.OK}, {3, []int{1, 2}, -1, []int{-2, -1}, api.OK},
		{3, []int{1, -2}, -2, []int{2, -1, 2, -1}, api.OK}, {3, []int{1, 2}, 0, nil, api.OK},
		{3, []int{1}, 200, repeated(200, 1), api.OK}, {3, []int{1}, -200, repeated(200, -1), api.OK}, {3, []int{1}, 201, nil, api.ErrMany}, {3, []int{1}, -201, nil, api.ErrMany},
		{3, []int{1, 1}, 100, repeated(200, 1), api.OK}, {3, []int{1, 1}, 101, nil, api.ErrMany}, {3, []int{1, 1}, -101, nil, api.ErrMany},
		{3, repeated(200, 2), 1, repeated(200, 2), api.OK}, {3, repeated(200, 2), 2, nil, api.ErrMany}, {3, repeated(200, 2), 0, nil, api.OK},
		{3, repeated(200, 2), -2, nil, api.ErrMany}, {3, []int{1}, math.MaxInt, nil, api.ErrMany}, {3, []int{1}, math.MinInt, nil, api.ErrMany},
		{3, []int{1, 2}, math.MinInt, nil, api.ErrMany}, {3, []int{1, 2}, 1 << 62, nil, api.ErrMany}, {3, repeated(128, 1), 1 << 57, nil, api.ErrMany},
		{3, nil, math.MaxInt, nil, api.OK}, {3, nil, math.MinInt, nil, api.OK}, {1, nil, 5, nil, api.OK},
	} {
		w, e := braid.Power(example.n, example.w, example.k)
		sameResult(t, w, e, example.wanted, example.e, example.n, len(example.w), example.k)
	}
}
