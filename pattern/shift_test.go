package pattern_test

import (
	"math"
	"slices"
	"testing"

	"becket/api"
	"becket/pattern"
)

// The tests of P6.3.

func TestShifted(t *testing.T) {
	for _, example := range []struct {
		down, right int
		wanted      [][]int
	}{
		{0, 0, chapterPicture()}, {1, 0, [][]int{{1, 1}, {0, 1}, {1, 0}}}, {-1, 0, [][]int{{1, 0}, {1, 1}, {0, 1}}}, {0, 1, [][]int{{1, 0}, {0, 1}, {1, 1}}},
		{3, -2, chapterPicture()}, {4, 3, [][]int{{1, 1}, {1, 0}, {0, 1}}},
	} {
		p, e := pattern.Shifted(chapterPicture(), example.down, example.right)
		sameResult(t, p, e, example.wanted, api.OK, example)
	}
	for _, p := range manyPictures() {
		for _, by := range [][2]int{{0, 0}, {1, 2}, {-1, 0}, {0, -3}, {5, 7}, {-100, 100}, {24, 23}} {
			got, e := pattern.Shifted(p, by[0], by[1])
			sameResult(t, got, e, shiftedIn(p, by[0], by[1]), api.OK, p, by)
		}
		for _, down := range []int{math.MinInt, math.MinInt + 1, math.MaxInt - 1, math.MaxInt} {
			for _, right := range []int{math.MinInt, math.MaxInt, 1} {
				got, e := pattern.Shifted(p, down, right)
				sameResult(t, got, e, shiftedIn(p, down%len(p), right%len(p[0])), api.OK, p, down, right)
			}
		}
	}
}

func TestPeriods(t *testing.T) {
	for _, example := range []struct {
		p      [][]int
		wanted [2]int
	}{
		{chapterPicture(), [2]int{3, 2}}, {[][]int{{0, 1, 0, 1}, {1, 0, 1, 0}}, [2]int{2, 2}}, {[][]int{{5}}, [2]int{1, 1}},
		{[][]int{{0, 1, 0}, {0, 1, 0}}, [2]int{1, 3}}, {[][]int{{0, 0}, {1, 1}, {0, 0}, {1, 1}}, [2]int{2, 1}},
	} {
		periods, e := pattern.Periods(example.p)
		sameResult(t, periods, e, example.wanted, api.OK, example.p)
	}
	for _, p := range manyPictures() {
		wanted := [2]int{1, 1}
		for !equalRows(shiftedIn(p, wanted[0], 0), p) {
			wanted[0]++
		}
		for !equalRows(shiftedIn(p, 0, wanted[1]), p) {
			wanted[1]++
		}
		periods, e := pattern.Periods(p)
		sameResult(t, periods, e, wanted, api.OK, p)
	}
}

func TestShifts(t *testing.T) {
	list, e := pattern.Shifts([][]int{{0, 1, 0, 1}, {1, 0, 1, 0}})
	sameResult(t, list, e, [][2]int{{0, 0}, {0, 2}, {1, 1}, {1, 3}}, api.OK)
	list, e = pattern.Shifts(chapterPicture())
	sameResult(t, list, e, [][2]int{{0, 0}}, api.OK)
	for _, p := range manyPictures() {
		list, e := pattern.Shifts(p)
		sameResult(t, list, e, shiftsIn(p, p), api.OK, p)
	}
}

// normalIn returns the first one of all pictures into which a picture can be shifted.
func normalIn(p [][]int) [][]int {
	first := p
	for down := range p {
		for right := range p[0] {
			if q := shiftedIn(p, down, right); slices.Compare(slices.Concat(q...), slices.Concat(first...)) < 0 {
				first = q
			}
		}
	}
	return first
}

func TestNormal(t *testing.T) {
	p, e := pattern.Normal([][]int{{2, 1, 0, 1}})
	sameResult(t, p, e, [][]int{{0, 1, 2, 1}}, api.OK)
	p, e = pattern.Normal([][]int{{1, 1}, {1, 0}, {0, 1}})
	sameResult(t, p, e, chapterPicture(), api.OK)
	for _, p := range manyPictures() {
		got, e := pattern.Normal(p)
		sameResult(t, got, e, normalIn(p), api.OK, p)
	}
}

func TestSame(t *testing.T) {
	for _, example := range []struct {
		p, q   [][]int
		wanted bool
	}{
		{chapterPicture(), chapterPicture(), true}, {chapterPicture(), [][]int{{1, 1}, {1, 0}, {0, 1}}, true}, {chapterPicture(), [][]int{{0, 1}, {1, 0}, {1, 0}}, false},
		{[][]int{{0, 1}}, [][]int{{0}, {1}}, false}, {[][]int{{0, 0}}, [][]int{{0, 0, 0}}, false}, {[][]int{{0, 1}}, [][]int{{0, 1}, {0, 1}}, false},
		{[][]int{{0, 0, 0}, {0, 0, 0}}, [][]int{{0, 0}, {0, 0}, {0, 0}}, false}, {[][]int{{0, 1, 2}}, [][]int{{0, 2, 1}}, false},
		{[][]int{{0, 1}}, [][]int{{1, 2}}, false}, {[][]int{{0, 1, 1}, {0, 0, 1}}, [][]int{{0, 1, 1}, {0, 1, 0}}, false},
	} {
		is, e := pattern.Same(example.p, example.q)
		sameResult(t, is, e, example.wanted, api.OK, example)
		is, e = pattern.Same(example.q, example.p)
		sameResult(t, is, e, example.wanted, api.OK, example)
	}
	source := seeded()
	count := 0
	for range 2000 {
		rows, columns := 1+source.Intn(3), 1+source.Intn(3)
		p, q := randomPicture(source, rows, columns, 2), randomPicture(source, rows, columns, 2)
		wanted := len(shiftsIn(p, q)) > 0
		is, e := pattern.Same(p, q)
		sameResult(t, is, e, wanted, api.OK, p, q)
		if is {
			count++
		}
	}
	same(t, count > 200 && count < 1800, true, count)
}

// slopeIn returns the least slope, or ErrNone.
func slopeIn(p [][]int) (int, api.Errno) {
	for slope := range p[0] {
		fits := true
		for r := 1; r < len(p); r++ {
			fits = fits && slices.Equal(p[r], shiftedIn(p[r-1:r], 0, slope)[0])
		}
		if fits {
			return slope, api.OK
		}
	}
	return 0, api.ErrNone
}

func TestSlope(t *testing.T) {
	for _, example := range []struct {
		p      [][]int
		wanted int
		e      api.Errno
	}{
		{chapterPicture(), 0, api.ErrNone}, {chapterPicture()[:2], 1, api.OK}, {[][]int{{0, 1, 0, 1}, {1, 0, 1, 0}}, 1, api.OK}, {[][]int{{1, 2, 3}}, 0, api.OK},
		{[][]int{{1, 2, 3}, {3, 1, 2}, {2, 3, 1}}, 1, api.OK}, {[][]int{{1, 2, 3}, {2, 3, 1}, {3, 1, 2}}, 2, api.OK}, {[][]int{{4}, {4}}, 0, api.OK},
		{[][]int{{4}, {5}}, 0, api.ErrNone}, {[][]int{{1, 2, 3}, {2, 3, 1}}, 2, api.OK}, {[][]int{{0, 1}, {0, 1}, {1, 0}}, 0, api.ErrNone},
		{[][]int{{0, 0, 1, 1}, {1, 0, 0, 1}, {1, 1, 0, 0}, {0, 1, 1, 0}, {0, 0, 1, 1}}, 1, api.OK}, {[][]int{{1, 0, 0}, {0, 1, 0}, {0, 0, 1}, {0, 0, 1}}, 0, api.ErrNone},
	} {
		slope, e := pattern.Slope(example.p)
		sameResult(t, slope, e, example.wanted, example.e, example.p)
	}
	found := 0
	for _, p := range manyPictures() {
		wanted, code := slopeIn(p)
		slope, e := pattern.Slope(p)
		sameResult(t, slope, e, wanted, code, p)
		if slope > 0 {
			found++
		}
	}
	same(t, found > 10, true, found)
}

func TestCells(t *testing.T) {
	for _, example := range []struct {
		p      [][]int
		wanted []int
	}{
		{chapterPicture(), []int{2, 4}}, {[][]int{{3}}, []int{0, 0, 0, 1}}, {[][]int{{0}}, []int{1}}, {[][]int{{7, 0, 7}, {0, 5, 0}}, []int{3, 0, 0, 0, 0, 1, 0, 2}},
		{repeated(24, repeated(24, 1)), []int{0, 576}},
	} {
		counts, e := pattern.Cells(example.p)
		sameResult(t, counts, e, example.wanted, api.OK, example.p)
	}
	for _, p := range manyPictures() {
		counts, e := pattern.Cells(p)
		sameResult(t, counts, e, bobbinsOf(slices.Concat(p...), coloursOf(p)), api.OK, p)
	}
}

func TestErrorsOfShifts(t *testing.T) {
	for i, bad := range badPictures() {
		for name, got := range callAll(call{scheme: plait(), p: bad.p, q: [][]int{{8}}}) {
			if takesPictureFirst(name) {
				same(t, got.e, bad.e, name, i)
			}
		}
		is, e := pattern.Same(chapterPicture(), bad.p)
		sameResult(t, is, e, false, bad.e, i)
		is, e = pattern.Same(bad.p, nil)
		sameResult(t, is, e, false, bad.e, i)
	}
}
