package pattern_test

import (
	"math"
	"math/rand"
	"reflect"
	"slices"
	"testing"

	"becket/api"
)

// The tests use the exported functions of the package alone, and compare with a plain model of single strands and cells.

// same fails the test if a result is not the wanted one; nil and empty slices are equivalent.
func same(t *testing.T, got, wanted any, what ...any) {
	t.Helper()
	if !alike(reflect.ValueOf(got), reflect.ValueOf(wanted)) {
		t.Errorf("%v: got %v, want %v", what, got, wanted)
	}
}

func alike(a, b reflect.Value) bool {
	if a.Kind() == reflect.Interface && b.Kind() == reflect.Interface {
		a, b = a.Elem(), b.Elem()
	}
	if a.Kind() != reflect.Slice || b.Kind() != reflect.Slice {
		return a.IsValid() && b.IsValid() && reflect.DeepEqual(a.Interface(), b.Interface())
	}
	if a.Len() != b.Len() || a.Type() != b.Type() {
		return false
	}
	for i := range a.Len() {
		if !alike(a.Index(i), b.Index(i)) {
			return false
		}
	}
	return true
}

// sameResult fails the test if a result and its error are not the wanted ones.
func sameResult(t *testing.T, got any, e api.Errno, wanted any, code api.Errno, what ...any) {
	t.Helper()
	same(t, e, code, what...)
	same(t, got, wanted, what...)
}

// seeded returns a source of numbers that is the same in each run.
func seeded() *rand.Rand {
	return rand.New(rand.NewSource(39373))
}

// fault makes something wrong, so that the error has to be returned.
type fault[T any] struct {
	make func(x *T)
	e    api.Errno
}

// checkFaults fails the test for each fault, in the order of their errors, that does not decide alone, or together with
// one that comes after it.
func checkFaults[T any](t *testing.T, good func() T, faults []fault[T], check func(x T) api.Errno) {
	t.Helper()
	same(t, check(good()), api.OK, "without a fault")
	for i, first := range faults {
		for k, later := range faults[i:] {
			x := good()
			later.make(&x)
			first.make(&x) // the last one, for it may overwrite what the later one made
			same(t, check(x), first.e, "fault", i, "before", i+k)
		}
	}
}

// repeated returns a list with an element so many times.
func repeated[T any](count int, element T) []T {
	return slices.Repeat([]T{element}, count)
}

// clonedRows returns rows that share no memory with these.
func clonedRows(rows [][]int) [][]int {
	var list [][]int
	for _, row := range rows {
		list = append(list, slices.Clone(row))
	}
	return list
}

// scheme is a number of strands with a word.
type scheme struct {
	n int
	w []int
}

// plait is the scheme of the chapter.
func plait() scheme {
	return scheme{3, []int{1, -2}}
}

// chapterPicture is the picture of the chapter.
func chapterPicture() [][]int {
	return [][]int{{0, 1}, {1, 0}, {1, 1}}
}

// allWords returns all words with 1 to so many letters.
func allWords(n, most int) [][]int {
	list := [][]int{nil}
	for i := 0; i < len(list); i++ {
		for letter := 1 - n; letter < n; letter++ {
			if letter != 0 && len(list[i]) < most {
				list = append(list, append(slices.Clone(list[i]), letter))
			}
		}
	}
	return list[1:]
}

// randomWord returns a word with so many letters.
func randomWord(source *rand.Rand, n, length int) []int {
	var w []int
	for range length {
		w = append(w, (1+source.Intn(n-1))*(2*source.Intn(2)-1))
	}
	return w
}

// smallSchemes returns all schemes with few strands and letters, and some with up to 5 strands.
func smallSchemes() []scheme {
	var list []scheme
	for n := 2; n <= 4; n++ {
		for _, w := range allWords(n, 6-n) {
			list = append(list, scheme{n, w})
		}
	}
	source := seeded()
	for range 40 {
		n := 2 + source.Intn(4)
		list = append(list, scheme{n, randomWord(source, n, 1+source.Intn(6))})
	}
	return list
}

// manySchemes returns the small schemes, those with the longest periods, and some of any size.
func manySchemes() []scheme {
	list := append(smallSchemes(),
		scheme{12, []int{1, 2, 4, 5, 6, 8, 9, 10, 11}}, scheme{12, []int{-1, -2, -4, 5, -6, 8, -9, 10, -11}}, // cycles of 3, 4 and 5
		scheme{12, []int{1, 2, 3, 4, 5, 6, 7, 8, 9, 10, 11}}, scheme{12, []int{11, 11}}, scheme{12, repeated(24, -11)}, scheme{2, repeated(24, 1)},
		scheme{12, []int{6}}, scheme{7, []int{1, 2, 3, 5, -6}},
	)
	source := seeded()
	for range 200 {
		n := 2 + source.Intn(11)
		list = append(list, scheme{n, randomWord(source, n, 1+source.Intn(24))})
	}
	return list
}

// badScheme is a scheme with its error.
type badScheme struct {
	scheme
	e api.Errno
}

// badSchemes returns schemes with each error.
func badSchemes() []badScheme {
	var list []badScheme
	add := func(e api.Errno, n int, w ...int) { list = append(list, badScheme{scheme{n, w}, e}) }
	for _, n := range []int{1, 0, -1, 13, math.MinInt, math.MaxInt} {
		for _, w := range [][]int{{1}, nil, repeated(25, 1), {0}} {
			add(api.ErrRange, n, w...)
		}
	}
	add(api.ErrEmpty, 3)
	add(api.ErrEmpty, 12)
	add(api.ErrMany, 3, repeated(25, 1)...)
	add(api.ErrMany, 3, repeated(25, 0)...)
	add(api.ErrMany, 2, repeated(100000, 7)...)
	add(api.ErrRange, 3, 0)
	add(api.ErrRange, 3, 1, 2, 0)
	add(api.ErrRange, 3, 3)
	add(api.ErrRange, 3, -3)
	add(api.ErrRange, 2, 2)
	add(api.ErrRange, 2, -2, 1)
	add(api.ErrRange, 12, 11, -11, 12)
	add(api.ErrRange, 12, -12)
	add(api.ErrRange, 12, math.MinInt)
	add(api.ErrRange, 12, math.MaxInt)
	add(api.ErrRange, 12, append(repeated(23, 11), 12)...)
	return list
}

// badList is a list with its error.
type badList struct {
	l []int
	e api.Errno
}

// badPlacings returns placings of 3 strands with each error.
func badPlacings() []badList {
	return []badList{
		{nil, api.ErrShape}, {[]int{0, 1}, api.ErrShape}, {[]int{0, 1, 2, 3}, api.ErrShape}, {[]int{8, 9}, api.ErrShape}, {make([]int, 100000), api.ErrShape},
		{[]int{0, 1, 8}, api.ErrRange}, {[]int{0, -1, 1}, api.ErrRange}, {[]int{math.MaxInt, 0, 0}, api.ErrRange}, {[]int{0, math.MinInt, 0}, api.ErrRange},
	}
}

// badPicture is a picture with its error.
type badPicture struct {
	p [][]int
	e api.Errno
}

// badPictures returns pictures with each error.
func badPictures() []badPicture {
	wide := make([]int, 25)
	return []badPicture{
		{nil, api.ErrEmpty}, {[][]int{}, api.ErrEmpty},
		{make([][]int, 25), api.ErrMany}, {repeated(25, []int{0}), api.ErrMany}, {repeated(100000, []int{9}), api.ErrMany}, {repeated(25, wide), api.ErrMany},
		{[][]int{nil}, api.ErrEmpty}, {[][]int{{}, {0}}, api.ErrEmpty}, {[][]int{{0, 1}, {}}, api.ErrEmpty}, {[][]int{{0}, {1}, nil, {9}}, api.ErrEmpty},
		{[][]int{nil, wide}, api.ErrEmpty}, {[][]int{wide}, api.ErrMany}, {[][]int{{0}, wide}, api.ErrMany}, {[][]int{repeated(25, 9)}, api.ErrMany},
		{[][]int{{0}, {0, 1}, nil}, api.ErrShape}, {[][]int{{0, 1}, {0}}, api.ErrShape}, {[][]int{{0, 1}, {1, 0}, {9, 9, 9}}, api.ErrShape},
		{[][]int{{0, 8}}, api.ErrRange}, {[][]int{{-1}}, api.ErrRange}, {[][]int{{0}, {8}, {0, 0}}, api.ErrRange}, {[][]int{{0, 8}, {0}}, api.ErrRange},
		{[][]int{{0}, {0}, {math.MaxInt}}, api.ErrRange}, {[][]int{{math.MinInt}, nil}, api.ErrRange},
	}
}

// randomPicture returns a picture of this size with so many colours.
func randomPicture(source *rand.Rand, rows, columns, colours int) [][]int {
	var p [][]int
	for range rows {
		var row []int
		for range columns {
			row = append(row, source.Intn(colours))
		}
		p = append(p, row)
	}
	return p
}

// manyPictures returns pictures of many sizes, some with periods, and the greatest ones.
func manyPictures() [][][]int {
	source := seeded()
	list := [][][]int{
		chapterPicture(), {{0}}, {{7}}, {{1, 2, 3}}, {{1}, {2}, {3}}, {{0, 1, 0, 1}, {1, 0, 1, 0}}, {{0, 0}, {0, 0}}, {{1, 0, 0}, {0, 1, 0}, {0, 0, 1}},
		repeated(24, repeated(24, 3)), randomPicture(source, 24, 24, 8), randomPicture(source, 1, 24, 2), randomPicture(source, 24, 1, 2),
	}
	for range 300 {
		list = append(list, randomPicture(source, 1+source.Intn(6), 1+source.Intn(6), 1+source.Intn(3)))
	}
	for range 100 {
		part := randomPicture(source, 1+source.Intn(3), 1+source.Intn(3), 2)
		list = append(list, tiled(part, 1+source.Intn(3), 1+source.Intn(3), source.Intn(len(part[0]))))
		list = append(list, tiled(part[:1], 1+source.Intn(4), 1+source.Intn(3), source.Intn(len(part[0]))))
	}
	return list
}

// tiled returns a picture of parts below and beside each other; each row of parts is further to the right than the one before.
func tiled(part [][]int, down, right, slope int) [][]int {
	var p [][]int
	for r := range down * len(part) {
		var row []int
		for c := range right * len(part[0]) {
			row = append(row, part[r%len(part)][(c+slope*(r/len(part)))%len(part[0])])
		}
		p = append(p, row)
	}
	return p
}
