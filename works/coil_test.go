package works_test

import (
	"testing"

	"becket/api"
	"becket/works"
)

// The tests of P9.3.

func TestCheckPieces(t *testing.T) {
	for _, x := range append(manyCuttings(200, 64), cutting{coil: 1, pieces: repeated(64, 1)}, cutting{coil: 10, pieces: []int{10, 1}}) {
		same(t, works.CheckPieces(x.coil, x.pieces), api.OK, x)
	}
	for _, example := range []struct {
		pieces []int
		e      api.Errno
	}{
		{[]int{11, 0}, api.ErrLarge}, {[]int{0, 11}, api.ErrRange}, {[]int{10, 999999999, -1}, api.ErrLarge}, {[]int{10, 1000000000, 11}, api.ErrRange},
	} {
		same(t, works.CheckPieces(10, example.pieces), example.e, example)
	}
	checkFaults(t, chapterCutting, faultsOfPieces(), func(x cutting) api.Errno { return works.CheckPieces(x.coil, x.pieces) })
}

// cutErrorIn returns the number of coils of any list of numbers, and its error.
func cutErrorIn(x cutting) (int, api.Errno) {
	for i, number := range x.cut {
		if number < 0 || number > len(sums(x.pieces, x.cut[:i])) {
			return 0, api.ErrOrder
		}
		if !fits(x, x.cut[:i+1]) {
			return 0, api.ErrLoad
		}
	}
	return len(sums(x.pieces, x.cut)), api.OK
}

// All lists with numbers from -1 to 4 for four pieces.
func TestAllCuts(t *testing.T) {
	for _, pieces := range [][]int{{6, 5, 4, 5}, {6, 6, 6, 6}, {1, 2, 3, 4}, {10, 1, 9, 10}, {5, 5, 5, 5}} {
		for _, cut := range allLists(4, 6) {
			for i := range cut {
				cut[i]--
			}
			x := cutting{10, pieces, cut}
			wanted, code := cutErrorIn(x)
			coils, e := works.CheckCut(10, pieces, cut)
			sameResult(t, coils, e, wanted, code, x)
		}
	}
}

func TestCheckCut(t *testing.T) {
	for _, example := range []struct {
		x     cutting
		coils int
		e     api.Errno
	}{
		{chapterCutting(), 3, api.OK}, {cutting{10, []int{6, 5, 4, 5}, []int{0, 1, 0, 1}}, 2, api.OK}, {cutting{coil: 10}, 0, api.OK},
		{cutting{10, []int{6, 5, 4, 5}, []int{0, 0, 1, 2}}, 0, api.ErrLoad}, {cutting{10, []int{6, 5, 4, 5}, []int{0, 2, 0, 1}}, 0, api.ErrOrder},
		{cutting{10, []int{6, 5, 4, 5}, []int{0, 0, 9, 9}}, 0, api.ErrLoad}, {cutting{10, []int{6, 5, 4, 5}, []int{0, 9, 0, 0}}, 0, api.ErrOrder},
		{cutting{999999999, repeated(64, 999999999), numbersTo(64)}, 64, api.OK}, {cutting{64, repeated(64, 1), repeated(64, 0)}, 1, api.OK}, {cutting{63, repeated(64, 1), repeated(64, 0)}, 0, api.ErrLoad},
	} {
		coils, e := works.CheckCut(example.x.coil, example.x.pieces, example.x.cut)
		sameResult(t, coils, e, example.coils, example.e, example)
	}
	checkFaults(t, chapterCutting, faultsOfCuts(), func(x cutting) api.Errno {
		coils, e := works.CheckCut(x.coil, x.pieces, x.cut)
		same(t, coils > 0, e == api.OK)
		return e
	})
}

// numbersTo returns the numbers from 0 on below another one.
func numbersTo(end int) []int {
	var list []int
	for i := range end {
		list = append(list, i)
	}
	return list
}

func TestCut(t *testing.T) {
	for _, example := range []struct {
		coil   int
		pieces []int
		wanted []int
	}{
		{10, []int{6, 5, 4, 5}, []int{0, 1, 0, 1}}, {10, []int{4, 5, 6, 5}, []int{0, 1, 0, 1}}, {10, nil, nil}, {10, []int{10}, []int{0}}, {10, []int{6, 6, 6}, []int{0, 1, 2}},
		{10, []int{1, 9, 9, 1}, []int{0, 0, 1, 1}}, {10, []int{2, 2, 2, 4, 8, 8}, []int{0, 0, 0, 0, 1, 2}}, {10, []int{2, 2, 2, 8, 8, 8}, []int{0, 1, 2, 0, 1, 2}}, {10, []int{3, 3, 4, 5, 5}, []int{0, 0, 0, 1, 1}}, {12, []int{3, 9, 3, 9, 6, 6}, []int{0, 0, 1, 1, 2, 2}},
		{8, repeated(8, 1), repeated(8, 0)}, {1, repeated(8, 1), numbersTo(8)}, {999999999, []int{500000000, 500000000, 499999999, 499999999}, []int{0, 1, 0, 1}},
	} {
		cut, e := works.Cut(example.coil, example.pieces)
		sameResult(t, cut, e, example.wanted, api.OK, example)
	}
}

func TestCutsOfMany(t *testing.T) {
	for _, x := range manyCuttings(300, 8) {
		cut, e := works.Cut(x.coil, x.pieces)
		sameResult(t, cut, e, cutIn(x), api.OK, x)
	}
}

func TestFirstFit(t *testing.T) {
	for _, example := range []struct {
		coil   int
		pieces []int
		wanted []int
	}{
		{10, []int{6, 5, 4, 5}, []int{0, 1, 0, 1}}, {10, []int{4, 5, 6, 5}, []int{0, 0, 1, 2}}, {10, nil, nil}, {10, []int{6, 6, 6, 4, 4, 4}, []int{0, 1, 2, 0, 1, 2}}, {10, []int{9, 9, 1, 1, 1}, []int{0, 1, 0, 1, 2}},
		{1, repeated(64, 1), numbersTo(64)}, {64, repeated(64, 1), repeated(64, 0)}, {999999999, repeated(3, 500000000), []int{0, 1, 2}},
	} {
		cut, e := works.FirstFit(example.coil, example.pieces)
		sameResult(t, cut, e, example.wanted, api.OK, example)
	}
	for _, x := range manyCuttings(300, 64) {
		cut, e := works.FirstFit(x.coil, x.pieces)
		sameResult(t, cut, e, firstFitIn(x), api.OK, x)
	}
}

func TestCoils(t *testing.T) {
	for _, example := range []struct {
		coil   int
		pieces []int
		wanted int
	}{
		{10, []int{6, 5, 4, 5}, 2}, {10, []int{6, 6, 6}, 3}, {10, []int{5, 5, 5, 5}, 2}, {10, nil, 0}, {10, []int{1}, 1}, {10, []int{5, 5, 1}, 2}, {11, []int{5, 6, 6}, 2}, {11, []int{5, 5, 5}, 2}, {11, []int{6, 6, 6}, 3},
		{999999999, repeated(64, 999999999), 64}, {999999999, repeated(64, 500000000), 64}, {999999999, repeated(64, 499999999), 32}, {1, repeated(64, 1), 64},
	} {
		coils, e := works.Coils(example.coil, example.pieces)
		sameResult(t, coils, e, example.wanted, api.OK, example)
	}
	for _, x := range manyCuttings(300, 64) {
		coils, e := works.Coils(x.coil, x.pieces)
		sameResult(t, coils, e, coilsIn(x), api.OK, x)
	}
}

func TestErrorsOfCoils(t *testing.T) {
	many := fault[cutting]{func(x *cutting) { x.coil, x.pieces = 10, repeated(9, 1) }, api.ErrLimit}
	most := fault[cutting]{func(x *cutting) { x.coil, x.pieces = 10, repeated(64, 10) }, api.ErrLimit}
	checkFaults(t, chapterCutting, append(faultsOfPieces(), many, most), func(x cutting) api.Errno {
		cut, e := works.Cut(x.coil, x.pieces)
		same(t, len(cut) > 0, e == api.OK)
		return e
	})
	checkFaults(t, chapterCutting, faultsOfPieces(), func(x cutting) api.Errno {
		cut, e := works.FirstFit(x.coil, x.pieces)
		same(t, len(cut) > 0, e == api.OK)
		return e
	})
	checkFaults(t, chapterCutting, faultsOfPieces(), func(x cutting) api.Errno {
		coils, e := works.Coils(x.coil, x.pieces)
		same(t, coils > 0, e == api.OK)
		return e
	})
}
