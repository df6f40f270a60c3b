package splice_test

import (
	"testing"

	"becket/api"
	"becket/splice"
)

// The tests of P8.4.

func TestCheckNet(t *testing.T) {
	for _, n := range manyNets() {
		same(t, splice.CheckNet(n), api.OK, n)
	}
	for _, bad := range badNets() {
		same(t, splice.CheckNet(bad.n), bad.e, bad)
	}
}

// All rows after few meshes.
func TestAllRows(t *testing.T) {
	for first := 1; first <= 6; first++ {
		for more := -1; more <= 8; more++ {
			for less := -1; less <= 5; less++ {
				wanted := api.OK
				if more < 0 || less < 0 {
					wanted = api.ErrRange
				} else if more+less+less > first {
					wanted = api.ErrRule
				}
				n := splice.Net{First: first, Rows: []splice.Row{{More: more, Less: less}}}
				same(t, splice.CheckNet(n), wanted, n)
			}
		}
	}
}

func TestNetOfTheChapter(t *testing.T) {
	meshes, e := splice.Meshes(chapterNet())
	sameResult(t, meshes, e, []int{5, 6, 4, 4}, api.OK)
	knots, e := splice.Knots(chapterNet())
	sameResult(t, knots, e, 14, api.OK)
	twine, e := splice.Twine(chapterNet(), "2", "1")
	sameResult(t, twine, e, api.Rat("90"), api.OK)
}

func TestNetsOfMany(t *testing.T) {
	source := seeded()
	for i, n := range manyNets() {
		wanted := meshesIn(n)
		meshes, e := splice.Meshes(n)
		sameResult(t, meshes, e, wanted, api.OK, n)
		sum := 0
		for _, row := range wanted[1:] {
			sum += row
		}
		knots, e := splice.Knots(n)
		sameResult(t, knots, e, sum, api.OK, n)
		if i%3 == 0 {
			side, knot := randomRat(source, 1+i), randomRat(source, 1+i)
			twine, e := splice.Twine(n, rat(side), rat(knot))
			sameLimited(t, twine, e, twineIn(n, side, knot), n, side, knot)
		}
	}
}

func TestTwine(t *testing.T) {
	one, two := splice.Net{First: 1}, splice.Net{First: 1, Rows: []splice.Row{{}}}
	for _, example := range []struct {
		n          splice.Net
		side, knot api.Rat
		wanted     api.Rat
		e          api.Errno
	}{
		{one, "3/2", "7", "3", api.OK}, {two, "3/2", "7", "13", api.OK}, {two, "0", "7/3", "7/3", api.OK}, {two, "7/3", "0", "28/3", api.OK}, {two, "0", "0", "0", api.OK},
		{one, nines(600), "0", "", api.ErrLarge}, {one, "5" + ten(599)[1:], "0", "", api.ErrLarge}, {one, "4" + ten(599)[1:], "0", "8" + ten(599)[1:], api.OK},
		{one, "1/" + nines(600), "1/" + nines(600), "2/" + nines(600), api.OK}, {two, "1/" + nines(600), "1/" + ten(599), "", api.ErrLarge},
		{two, ten(599) + "/" + nines(600), nines(600) + "/" + ten(599), "", api.ErrLarge},
		{splice.Net{First: 500, Rows: repeated(64, splice.Row{})}, "1/65000", "1/64000", "3/2", api.OK},
	} {
		twine, e := splice.Twine(example.n, example.side, example.knot)
		sameResult(t, twine, e, example.wanted, example.e, example)
	}
}

// The sides alone have 601 digits in their numerator, while the sum of sides and knots is 4.
func TestTwineHasNoLimitOnTheWay(t *testing.T) {
	two := splice.Net{First: 1, Rows: []splice.Row{{}}}
	bottom := value(nines(600))
	side := over(plus(bottom, ratio(-1, 1)), bottom)
	knot := over(ratio(4, 1), bottom)
	same(t, len(times(side, ratio(4, 1)).Num().String()), 601)
	twine, e := splice.Twine(two, rat(side), rat(knot))
	sameResult(t, twine, e, api.Rat("4"), api.OK)
}

func TestShaped(t *testing.T) {
	for _, example := range []struct {
		first, last, rows int
		meshes            []int
	}{
		{4, 6, 3, []int{4, 4, 5, 6}}, {6, 4, 3, []int{6, 5, 4, 4}}, {5, 5, 2, []int{5, 5, 5}}, {1, 1, 1, []int{1, 1}}, {1, 2, 1, []int{1, 2}}, {2, 1, 1, []int{2, 1}}, {500, 250, 1, []int{500, 250}},
		{250, 500, 1, []int{250, 500}}, {7, 10, 2, []int{7, 8, 10}}, {10, 7, 2, []int{10, 8, 7}},
	} {
		n, e := splice.Shaped(example.first, example.last, example.rows)
		same(t, e, api.OK, example)
		same(t, meshesIn(n), example.meshes, example)
	}
	n, _ := splice.Shaped(6, 4, 3)
	same(t, n, splice.Net{First: 6, Rows: []splice.Row{{Less: 1}, {Less: 1}, {}}})
	n, _ = splice.Shaped(4, 6, 3)
	same(t, n, splice.Net{First: 4, Rows: []splice.Row{{}, {More: 1}, {More: 1}}})
	n, e := splice.Shaped(300, 300, 64)
	sameResult(t, n, e, splice.Net{First: 300, Rows: repeated(64, splice.Row{})}, api.OK)
}

// evenNet returns an even net, and ErrRule if a row has too many meshes more or fewer.
func evenNet(first, last, rows int) (splice.Net, api.Errno) {
	n := splice.Net{First: first}
	meshes := evenIn(first, last, rows)
	for k := range rows {
		difference := meshes[k+1] - meshes[k]
		if difference > meshes[k] || -2*difference > meshes[k] {
			return splice.Net{}, api.ErrRule
		}
		if difference > 0 {
			n.Rows = append(n.Rows, splice.Row{More: difference})
		} else {
			n.Rows = append(n.Rows, splice.Row{Less: -difference})
		}
	}
	return n, api.OK
}

func TestShapedOfMany(t *testing.T) {
	sizes := []int{1, 2, 3, 4, 5, 6, 7, 9, 20, 63, 64, 65, 129, 250, 251, 333, 499, 500}
	for _, first := range sizes {
		for _, last := range sizes {
			for rows := 1; rows <= 64; rows += 1 + rows/8 {
				wanted, code := evenNet(first, last, rows)
				n, e := splice.Shaped(first, last, rows)
				sameResult(t, n, e, wanted, code, first, last, rows)
			}
			wanted, code := evenNet(first, last, 64)
			n, e := splice.Shaped(first, last, 64)
			sameResult(t, n, e, wanted, code, first, last, 64)
		}
	}
}

func TestErrorsOfNets(t *testing.T) {
	good := func() weave { return weave{chapterNet(), "2", "1"} }
	checkFaults(t, good, faultsOfNets(), func(x weave) api.Errno {
		meshes, e := splice.Meshes(x.n)
		same(t, len(meshes) > 0, e == api.OK)
		return e
	})
	checkFaults(t, good, faultsOfNets(), func(x weave) api.Errno {
		knots, e := splice.Knots(x.n)
		same(t, knots > 0, e == api.OK)
		return e
	})
	faults := faultsOfNets()
	for _, bad := range badAmounts() {
		faults = append(faults, fault[weave]{func(x *weave) { x.side = bad.text }, bad.e})
	}
	for _, bad := range badAmounts() {
		faults = append(faults, fault[weave]{func(x *weave) { x.knot = bad.text }, bad.e})
	}
	faults = append(faults, fault[weave]{func(x *weave) { x.side = nines(600) }, api.ErrLarge})
	checkFaults(t, good, faults, func(x weave) api.Errno {
		twine, e := splice.Twine(x.n, x.side, x.knot)
		same(t, twine != "", e == api.OK)
		return e
	})
}

func TestErrorsOfShaped(t *testing.T) {
	type shape struct{ first, last, rows int }
	var faults []fault[shape]
	for _, wrong := range append(extremes(), 0, 501) {
		faults = append(faults, fault[shape]{func(x *shape) { x.first = wrong }, api.ErrRange}, fault[shape]{func(x *shape) { x.last = wrong }, api.ErrRange})
	}
	for _, wrong := range append(extremes(), 0, 65) {
		faults = append(faults, fault[shape]{func(x *shape) { x.rows = wrong }, api.ErrRange})
	}
	faults = append(faults,
		fault[shape]{func(x *shape) { x.first, x.last, x.rows = 9, 2, 1 }, api.ErrRule},
		fault[shape]{func(x *shape) { x.first, x.last, x.rows = 1, 500, 1 }, api.ErrRule},
		fault[shape]{func(x *shape) { x.first, x.last, x.rows = 500, 1, 3 }, api.ErrRule},
	)
	checkFaults(t, func() shape { return shape{4, 6, 3} }, faults, func(x shape) api.Errno {
		n, e := splice.Shaped(x.first, x.last, x.rows)
		same(t, n.First == 4 && len(n.Rows) == 3, e == api.OK)
		same(t, n.First != 0 || len(n.Rows) > 0, e == api.OK)
		return e
	})
}
