package pattern_test

import (
	"math"
	"slices"
	"testing"

	"becket/api"
	"becket/pattern"
)

// The tests of P6.1 and P6.2.

func TestLimit(t *testing.T) {
	same(t, pattern.MaxListed, 4096)
}

func TestCheckScheme(t *testing.T) {
	for _, s := range manySchemes() {
		same(t, pattern.CheckScheme(s.n, s.w), api.OK, s)
	}
	for n := 2; n <= 12; n++ {
		for letter := -14; letter <= 14; letter++ {
			wanted := api.OK
			if letter == 0 || abs(letter) >= n {
				wanted = api.ErrRange
			}
			same(t, pattern.CheckScheme(n, []int{letter}), wanted, n, letter)
			same(t, pattern.CheckScheme(n, append(repeated(23, 1), letter)), wanted, n, letter)
		}
	}
	for _, bad := range badSchemes() {
		same(t, pattern.CheckScheme(bad.n, bad.w), bad.e, bad.n, len(bad.w))
	}
}

func TestCheckPlacing(t *testing.T) {
	for n := 2; n <= 12; n++ {
		for colour := -3; colour <= 10; colour++ {
			wanted := api.OK
			if colour < 0 || colour > 7 {
				wanted = api.ErrRange
			}
			same(t, pattern.CheckPlacing(n, append(repeated(n-1, 7), colour)), wanted, n, colour)
			same(t, pattern.CheckPlacing(n, append([]int{colour}, repeated(n-1, 0)...)), wanted, n, colour)
		}
	}
	for _, bad := range badPlacings() {
		same(t, pattern.CheckPlacing(3, bad.l), bad.e, bad.l[:min(len(bad.l), 9)])
	}
	for _, n := range []int{1, 0, -1, 13, math.MinInt, math.MaxInt} {
		for _, colours := range [][]int{nil, {0}, {0, 1}, {9, 9, 9}, make([]int, 13)} {
			same(t, pattern.CheckPlacing(n, colours), api.ErrRange, n, colours)
		}
	}
}

func TestCheckPicture(t *testing.T) {
	for _, p := range manyPictures() {
		same(t, pattern.CheckPicture(p), api.OK, p)
	}
	for i, bad := range badPictures() {
		same(t, pattern.CheckPicture(bad.p), bad.e, i)
	}
}

func TestSeen(t *testing.T) {
	p, e := pattern.Seen(3, []int{1, -2}, 4)
	sameResult(t, p, e, [][]int{{0, 2}, {1, 0}, {2, 1}, {0, 2}}, api.OK)
	p, e = pattern.Seen(2, []int{1, -1}, 1)
	sameResult(t, p, e, [][]int{{0, 0}}, api.OK)
	p, e = pattern.Seen(2, []int{-1}, 3)
	sameResult(t, p, e, [][]int{{1}, {0}, {1}}, api.OK)
	for _, s := range manySchemes() {
		for _, rows := range []int{1, 2, 24} {
			p, e := pattern.Seen(s.n, s.w, rows)
			sameResult(t, p, e, seenIn(s, rows), api.OK, s, rows)
		}
	}
}

func TestPeriod(t *testing.T) {
	for _, example := range []struct {
		s      scheme
		wanted int
	}{
		{plait(), 3}, {scheme{3, []int{1}}, 2}, {scheme{4, []int{1, 1}}, 1}, {scheme{5, []int{1, 2, 4}}, 6}, {scheme{2, []int{1}}, 2}, {scheme{2, []int{1, 1, 1}}, 2},
		{scheme{12, []int{1, 2, 4, 5, 6, 8, 9, 10, 11}}, 60}, {scheme{12, []int{11}}, 2}, {scheme{12, []int{1, 2, 3, 4, 5, 6, 7, 8, 9, 10, 11}}, 12},
	} {
		period, e := pattern.Period(example.s.n, example.s.w)
		sameResult(t, period, e, example.wanted, api.OK, example.s)
	}
	for _, s := range manySchemes() {
		each := make([]int, s.n)
		for strand := range each {
			each[strand] = strand
		}
		period, e := pattern.Period(s.n, s.w)
		sameResult(t, period, e, repeatIn(s, each), api.OK, s)
	}
}

func TestPaint(t *testing.T) {
	p, e := pattern.Paint(3, []int{1, -2}, []int{0, 1, 1}, 3)
	sameResult(t, p, e, chapterPicture(), api.OK)
	source := seeded()
	for _, s := range manySchemes() {
		colours := randomPicture(source, 1, s.n, 8)[0]
		for _, rows := range []int{1, 3, 24} {
			p, e := pattern.Paint(s.n, s.w, colours, rows)
			sameResult(t, p, e, paintIn(s, colours, rows), api.OK, s, colours, rows)
		}
	}
}

func TestRepeat(t *testing.T) {
	long := scheme{12, []int{1, 2, 4, 5, 6, 8, 9, 10, 11}}
	for _, example := range []struct {
		s       scheme
		colours []int
		wanted  int
	}{
		{plait(), []int{0, 1, 1}, 3}, {plait(), []int{1, 1, 1}, 1}, {plait(), []int{0, 1, 2}, 3}, {scheme{4, []int{1, 2, 3}}, []int{0, 1, 0, 1}, 2},
		{scheme{3, []int{1}}, []int{5, 5, 0}, 1}, {scheme{3, []int{1}}, []int{5, 0, 0}, 2},
		{long, []int{0, 0, 1, 0, 0, 0, 1, 0, 0, 0, 0, 1}, 60}, {long, []int{0, 0, 1, 2, 3, 2, 3, 4, 4, 4, 4, 4}, 6}, {long, repeated(12, 7), 1},
	} {
		count, e := pattern.Repeat(example.s.n, example.s.w, example.colours)
		sameResult(t, count, e, example.wanted, api.OK, example)
	}
	source := seeded()
	for _, s := range manySchemes() {
		for _, colours := range randomPicture(source, 5, s.n, 2) {
			count, e := pattern.Repeat(s.n, s.w, colours)
			sameResult(t, count, e, repeatIn(s, colours), api.OK, s, colours)
		}
	}
}

// picturing is the arguments of the functions of P6.2.
type picturing struct {
	scheme
	colours []int
	rows    int
}

func faultsOfSchemes() []fault[picturing] {
	var list []fault[picturing]
	add := func(e api.Errno, make func(x *picturing)) { list = append(list, fault[picturing]{make, e}) }
	add(api.ErrRange, func(x *picturing) { x.n = 1 })
	add(api.ErrRange, func(x *picturing) { x.n = 13 })
	add(api.ErrEmpty, func(x *picturing) { x.w = nil })
	add(api.ErrMany, func(x *picturing) { x.w = make([]int, 25) })
	add(api.ErrRange, func(x *picturing) { x.w = []int{1, 0} })
	add(api.ErrRange, func(x *picturing) { x.w = []int{-12} })
	return list
}

func TestErrorsOfPictures(t *testing.T) {
	good := func() picturing { return picturing{plait(), []int{0, 1, 7}, 24} }
	faults := faultsOfSchemes()
	checkFaults(t, good, faults, func(x picturing) api.Errno {
		period, e := pattern.Period(x.n, x.w)
		same(t, period > 0, e == api.OK)
		return e
	})
	placings := []fault[picturing]{
		{func(x *picturing) { x.colours = []int{0, 8} }, api.ErrShape}, {func(x *picturing) { x.colours = nil }, api.ErrShape},
		{func(x *picturing) { x.colours = []int{0, 1, 8} }, api.ErrRange}, {func(x *picturing) { x.colours = []int{-1, 1, 0} }, api.ErrRange},
	}
	rows := []fault[picturing]{
		{func(x *picturing) { x.rows = 0 }, api.ErrRange}, {func(x *picturing) { x.rows = -1 }, api.ErrRange}, {func(x *picturing) { x.rows = 25 }, api.ErrRange},
		{func(x *picturing) { x.rows = math.MinInt }, api.ErrRange}, {func(x *picturing) { x.rows = math.MaxInt }, api.ErrRange},
	}
	checkFaults(t, good, slices.Concat(faults, rows), func(x picturing) api.Errno {
		p, e := pattern.Seen(x.n, x.w, x.rows)
		same(t, len(p) == 24, e == api.OK)
		return e
	})
	checkFaults(t, good, slices.Concat(faults, placings, rows), func(x picturing) api.Errno {
		p, e := pattern.Paint(x.n, x.w, x.colours, x.rows)
		same(t, len(p) == 24, e == api.OK)
		return e
	})
	checkFaults(t, good, slices.Concat(faults, placings), func(x picturing) api.Errno {
		count, e := pattern.Repeat(x.n, x.w, x.colours)
		same(t, count > 0, e == api.OK)
		return e
	})
	checkFaults(t, good, slices.Concat(faults, placings), func(x picturing) api.Errno {
		colours, e := pattern.Moved(x.n, x.w, x.colours)
		same(t, len(colours) == 3, e == api.OK)
		return e
	})
}

func TestErrorsOfSchemes(t *testing.T) {
	for _, bad := range badSchemes() {
		for name, got := range callAll(call{scheme: bad.scheme, colours: []int{9}, p: [][]int{nil}, by: 0, bobbins: make([]int, 9)}) {
			if takesScheme(name) {
				same(t, got.e, bad.e, name, bad.n, len(bad.w))
			}
		}
	}
}
