package braid_test

import (
	"math"
	"math/rand"
	"reflect"
	"slices"
	"testing"

	"becket/api"
	"becket/braid"
)

// The tests use the exported functions of the package alone, and compare with plain models.

// same fails the test if a result is not the wanted one; nil and empty slices are equivalent.
func same(t *testing.T, got, wanted any, what ...any) {
	t.Helper()
	if !alike(reflect.ValueOf(got), reflect.ValueOf(wanted)) {
		t.Errorf("%v: got %v, want %v", what, got, wanted)
	}
}

func alike(a, b reflect.Value) bool {
	if a.Kind() == reflect.Slice && b.Kind() == reflect.Slice {
		if a.Len() != b.Len() || a.Type() != b.Type() {
			return false
		}
		for i := range a.Len() {
			if !alike(a.Index(i), b.Index(i)) {
				return false
			}
		}
		return true
	}
	if f, ok := a.Interface().(braid.Form); ok {
		g, ok := b.Interface().(braid.Form)
		return ok && f.Half == g.Half && alike(reflect.ValueOf(f.Factors), reflect.ValueOf(g.Factors))
	}
	return reflect.DeepEqual(a.Interface(), b.Interface())
}

// sameResult fails the test if a result and its error are not the wanted ones.
func sameResult(t *testing.T, got any, e api.Errno, wanted any, code api.Errno, what ...any) {
	t.Helper()
	same(t, e, code, what...)
	same(t, got, wanted, what...)
}

// seeded returns a source of numbers that is the same in each run.
func seeded() *rand.Rand {
	return rand.New(rand.NewSource(39373))
}

// fault makes something wrong, so that the error has to be returned.
type fault[T any] struct {
	make func(x *T)
	e    api.Errno
}

// checkFaults fails the test for each fault, in the order of their errors, that does not decide alone, or together with
// one that comes after it.
func checkFaults[T any](t *testing.T, good func() T, faults []fault[T], check func(x T) api.Errno) {
	t.Helper()
	same(t, check(good()), api.OK, "without a fault")
	for i, first := range faults {
		for k, later := range faults[i:] {
			x := good()
			later.make(&x)
			first.make(&x) // the last one, for it may overwrite what the later one made
			same(t, check(x), first.e, "fault", i, "before", i+k)
		}
	}
}

// badWord is a word with its error.
type badWord struct {
	n int
	w []int
	e api.Errno
}

// badWords returns words with each error.
func badWords() []badWord {
	long := repeated(201, 1)
	return []badWord{
		{0, nil, api.ErrRange}, {-1, nil, api.ErrRange}, {13, nil, api.ErrRange}, {math.MinInt, []int{1}, api.ErrRange},
		{math.MaxInt, []int{1}, api.ErrRange}, {13, long, api.ErrRange}, {0, []int{0}, api.ErrRange}, {-4, []int{-5, 5}, api.ErrRange},
		{3, long, api.ErrMany}, {1, make([]int, 201), api.ErrMany}, {12, make([]int, 100000), api.ErrMany}, {2, repeated(201, 7), api.ErrMany},
		{1, []int{1}, api.ErrRange}, {1, []int{-1}, api.ErrRange}, {1, []int{0}, api.ErrRange}, {2, []int{2}, api.ErrRange},
		{2, []int{-2}, api.ErrRange}, {3, []int{1, 2, 0}, api.ErrRange}, {3, []int{-3, 1}, api.ErrRange}, {12, []int{12}, api.ErrRange},
		{12, []int{-12}, api.ErrRange}, {12, []int{1, math.MaxInt}, api.ErrRange}, {12, []int{math.MinInt, 1}, api.ErrRange},
		{12, append(repeated(199, 11), 12), api.ErrRange},
	}
}

// repeated returns a list with an element so many times.
func repeated[T any](count int, element T) []T {
	return slices.Repeat([]T{element}, count)
}

func abs(a int) int {
	return max(a, -a)
}

// sign returns 1 or -1.
func sign(letter int) int {
	return letter / abs(letter)
}

// randomWord returns a word with so many letters.
func randomWord(source *rand.Rand, n, length int) []int {
	var w []int
	for range length {
		if n > 1 {
			w = append(w, (1+source.Intn(n-1))*(2*source.Intn(2)-1))
		}
	}
	return w
}

// allWords returns all words with up to so many letters.
func allWords(n, most int) [][]int {
	list := [][]int{nil}
	for i := 0; i < len(list); i++ {
		for letter := 1 - n; letter < n; letter++ {
			if letter != 0 && len(list[i]) < most {
				list = append(list, append(slices.Clone(list[i]), letter))
			}
		}
	}
	return list
}

// opposite returns the word that leads back.
func opposite(w []int) []int {
	var back []int
	for _, letter := range w {
		back = append([]int{-letter}, back...)
	}
	return back
}

// disguised returns an equal word with at most so many letters, which the rules of braids alone make of a word.
func disguised(source *rand.Rand, n int, w []int, rules, most int) []int {
	w = slices.Clone(w)
	for range rules {
		at := source.Intn(len(w) + 1)
		var part, other []int
		switch i, k := randomPair(source, n); source.Intn(6) {
		case 0:
			part, other = nil, []int{i, -i}
		case 1:
			part, other = []int{i, -i}, nil
		case 2, 3:
			if abs(abs(i)-abs(k)) >= 2 {
				part, other = []int{i, k}, []int{k, i}
			}
		default:
			if k = sign(i) * abs(k); abs(i-k) == 1 {
				part, other = []int{i, k, i}, []int{k, i, k}
			}
		}
		if n > 1 && len(w)-len(part)+len(other) <= most && at+len(part) <= len(w) && slices.Equal(w[at:at+len(part)], part) {
			w = slices.Replace(w, at, at+len(part), other...)
		}
	}
	return w
}

// randomPair returns two letters.
func randomPair(source *rand.Rand, n int) (int, int) {
	if n == 1 {
		return 1, 1
	}
	w := randomWord(source, n, 2)
	return w[0], w[1]
}

// matrix is a matrix of two rows with numbers modulo a prime number, and with the determinant 1.
type matrix [4]uint64

const prime = 2147483647

func (a matrix) times(b matrix) matrix {
	return matrix{
		(a[0]*b[0] + a[1]*b[2]) % prime, (a[0]*b[1] + a[1]*b[3]) % prime, (a[2]*b[0] + a[3]*b[2]) % prime, (a[2]*b[1] + a[3]*b[3]) % prime,
	}
}

func (a matrix) inverse() matrix {
	return matrix{a[3], (prime - a[1]) % prime, (prime - a[2]) % prime, a[0]}
}

// imagesIn returns what a word makes of a matrix for each strand, by the rule of the images in the free group. Equal
// words make the same ones; that others do, too, is as good as impossible. So it decides for words of any length.
func imagesIn(n int, w []int) []matrix {
	var images []matrix
	for strand := range n {
		x, y := uint64(1000003*strand+12345), uint64(777767777+31337*strand*strand)
		images = append(images, matrix{1, x, 0, 1}.times(matrix{1, 0, y % prime, 1}))
	}
	for _, letter := range w {
		at := abs(letter) - 1
		x, y := images[at], images[at+1]
		if letter > 0 {
			images[at], images[at+1] = x.times(y).times(x.inverse()), x
		} else {
			images[at], images[at+1] = y, y.inverse().times(x).times(y)
		}
	}
	return images
}

// equalIn tells whether two words, of any length, are equal.
func equalIn(n int, a, b []int) bool {
	return slices.Equal(imagesIn(n, a), imagesIn(n, b))
}

// endsIn returns the permutation of a word.
func endsIn(n int, w []int) []int {
	ends := make([]int, n)
	for strand := range n {
		at := strand
		for _, letter := range w {
			switch abs(letter) - 1 {
			case at:
				at++
			case at - 1:
				at--
			}
		}
		ends[strand] = at
	}
	return ends
}

// bigelow returns two words on 5 strands, found by Bigelow, that have the same Burau matrices, but are not equal.
func bigelow() ([]int, []int) {
	first, second := []int{-3, 2, 1, 1, 2, 4, 4, 4, 3, 2}, []int{-4, 3, 2, -1, -1, 2, 1, 1, 2, 2, 1, 4, 4, 4, 4, 4}
	a := slices.Concat(opposite(first), []int{4}, first)
	b := slices.Concat(opposite(second), []int{4, 3, 2, 1, 1, 2, 3, 4}, second)
	return slices.Concat(a, b), slices.Concat(b, a)
}
