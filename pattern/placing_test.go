package pattern_test

import (
	"math"
	"math/rand"
	"slices"
	"testing"

	"becket/api"
	"becket/pattern"
)

// The tests of P6.4.

// wrong is the picture of the chapter that has a clash.
func wrong() [][]int {
	return [][]int{{0, 1}, {1, 1}, {1, 1}}
}

// making is a scheme with a picture.
type making struct {
	scheme
	p [][]int
}

// manyMakings returns schemes with pictures that fit in their columns, some of them painted, shifted, and with a fault.
func manyMakings(source *rand.Rand) []making {
	var list []making
	for _, s := range smallSchemes() {
		rows := 1 + source.Intn(5)
		p := paintIn(s, randomPicture(source, 1, s.n, 1+source.Intn(3))[0], rows)
		shifted := shiftedIn(p, source.Intn(rows), source.Intn(len(s.w)))
		faulty := clonedRows(p)
		faulty[source.Intn(rows)][source.Intn(len(s.w))] = source.Intn(3)
		list = append(list, making{s, p}, making{s, shifted}, making{s, faulty}, making{s, randomPicture(source, rows, len(s.w), 1+source.Intn(3))})
	}
	return list
}

func TestPlacings(t *testing.T) {
	for _, example := range []struct {
		making
		wanted [][]int
		e      api.Errno
	}{
		{making{plait(), chapterPicture()}, [][]int{{0, 1, 1}, {1, 0, 1}, {1, 1, 0}}, api.OK}, {making{plait(), wrong()}, nil, api.ErrNone},
		{making{scheme{3, []int{1}}, [][]int{{2}, {0}}}, [][]int{{0, 2, 0}, {2, 0, 0}}, api.OK}, {making{plait(), [][]int{{7, 7}}}, [][]int{{7, 0, 7}}, api.OK},
		{making{plait(), [][]int{{1, 2}}}, [][]int{{1, 0, 2}, {2, 0, 1}}, api.OK}, {making{scheme{2, []int{1, -1}}, [][]int{{1, 0}}}, nil, api.ErrNone},
		{making{scheme{4, []int{1}}, [][]int{{5}, {3}, {3}}}, [][]int{{3, 5, 0, 0}}, api.OK}, // by a shift: it has a clash itself
		{making{scheme{2, []int{1, 1}}, [][]int{{0, 0}, {0, 0}}}, [][]int{{0, 0}}, api.OK},
		{making{scheme{12, []int{11}}, [][]int{{6}}}, [][]int{append(repeated(10, 0), 6, 0)}, api.OK},
	} {
		list, e := pattern.Placings(example.n, example.w, example.p)
		sameResult(t, list, e, example.wanted, example.e, example.making)
	}
	found := map[bool]int{}
	for _, m := range manyMakings(seeded()) {
		wanted, code := placingsIn(m.scheme, m.p), api.OK
		if len(wanted) == 0 {
			code = api.ErrNone
		}
		list, e := pattern.Placings(m.n, m.w, m.p)
		sameResult(t, list, e, wanted, code, m)
		found[len(wanted) > 0]++
	}
	same(t, found[true] > 100 && found[false] > 50, true, found)
}

func TestClash(t *testing.T) {
	for _, example := range []struct {
		making
		wanted [2][2]int
		e      api.Errno
	}{
		{making{plait(), wrong()}, [2][2]int{{0, 0}, {1, 1}}, api.OK}, {making{plait(), chapterPicture()}, [2][2]int{}, api.ErrNone},
		{making{scheme{2, []int{1, 1}}, [][]int{{1, 0}, {1, 0}}}, [2][2]int{}, api.ErrNone}, {making{scheme{2, []int{1, -1}}, [][]int{{1, 0}}}, [2][2]int{{0, 0}, {0, 1}}, api.OK},
		{making{scheme{2, []int{1, 1, 1, 1, 1, 1}}, [][]int{{4, 5, 4, 6, 4, 5}}}, [2][2]int{{0, 1}, {0, 3}}, api.OK}, // not the cells 0 and 4
		{making{scheme{2, []int{1, 1}}, [][]int{{0, 0}, {0, 0}, {0, 0}, {0, 1}, {1, 0}}}, [2][2]int{{0, 1}, {3, 1}}, api.OK},
	} {
		clash, e := pattern.Clash(example.n, example.w, example.p)
		sameResult(t, clash, e, example.wanted, example.e, example.making)
	}
	found := map[bool]int{}
	for _, m := range manyMakings(seeded()) {
		wanted, is := clashIn(m.scheme, m.p)
		code := api.ErrNone
		if is {
			code = api.OK
		}
		clash, e := pattern.Clash(m.n, m.w, m.p)
		sameResult(t, clash, e, wanted, code, m)
		found[is]++
	}
	same(t, found[true] > 100 && found[false] > 100, true, found)
}

func TestCheckClash(t *testing.T) {
	for _, example := range []struct {
		cells [2][2]int
		e     api.Errno
	}{
		{[2][2]int{{0, 0}, {1, 1}}, api.OK}, {[2][2]int{{1, 1}, {0, 0}}, api.OK}, {[2][2]int{{0, 0}, {0, 1}}, api.ErrProof}, {[2][2]int{{0, 1}, {2, 0}}, api.ErrProof},
		{[2][2]int{{0, 0}, {0, 0}}, api.ErrProof}, {[2][2]int{{0, 0}, {3, 0}}, api.ErrRange}, {[2][2]int{{0, 2}, {0, 0}}, api.ErrRange},
		{[2][2]int{{-1, 0}, {1, 1}}, api.ErrRange}, {[2][2]int{{0, -1}, {1, 1}}, api.ErrRange}, {[2][2]int{{1, 1}, {0, -1}}, api.ErrRange},
		{[2][2]int{{math.MinInt, math.MaxInt}, {0, 0}}, api.ErrRange}, {[2][2]int{{0, 0}, {math.MaxInt, math.MinInt}}, api.ErrRange}, {[2][2]int{{3, 2}, {3, 2}}, api.ErrRange},
	} {
		same(t, pattern.CheckClash(3, []int{1, -2}, wrong(), example.cells), example.e, example.cells)
	}
	source := seeded()
	accepted := 0
	for range 300 {
		n := 2 + source.Intn(3)
		m := making{scheme{n, randomWord(source, n, 1+source.Intn(3))}, nil}
		m.p = randomPicture(source, 1+source.Intn(3), len(m.w), 2)
		strands := seenIn(m.scheme, len(m.p))
		inside := func(cell [2]int) bool {
			return cell[0] >= 0 && cell[0] < len(m.p) && cell[1] >= 0 && cell[1] < len(m.w)
		}
		for range 50 {
			a, b := [2]int{source.Intn(5) - 1, source.Intn(5) - 1}, [2]int{source.Intn(4), source.Intn(4)}
			wanted := api.ErrProof
			switch {
			case !inside(a) || !inside(b):
				wanted = api.ErrRange
			case strands[a[0]][a[1]] == strands[b[0]][b[1]] && m.p[a[0]][a[1]] != m.p[b[0]][b[1]]:
				wanted = api.OK
				accepted++
			}
			same(t, pattern.CheckClash(m.n, m.w, m.p, [2][2]int{a, b}), wanted, m, a, b)
		}
	}
	same(t, accepted > 100, true, accepted)
}

func TestClosest(t *testing.T) {
	for _, example := range []struct {
		making
		wanted []int
		faults int
	}{
		{making{plait(), wrong()}, []int{0, 1, 1}, 1}, {making{scheme{4, []int{1}}, [][]int{{5}, {3}, {3}}}, []int{3, 3, 0, 0}, 1},
		{making{plait(), chapterPicture()}, []int{0, 1, 1}, 0}, {making{scheme{2, []int{1, -1}}, [][]int{{7, 6}, {5, 7}, {6, 0}}}, []int{6, 0}, 4},
		{making{scheme{2, []int{1, -1}}, [][]int{{7, 6}, {7, 7}, {6, 6}}}, []int{6, 0}, 3}, {making{scheme{12, []int{-11}}, [][]int{{6}}}, append(repeated(11, 0), 6), 0},
		{making{scheme{2, repeated(24, 1)}, repeated(24, repeated(24, 7))}, []int{7, 7}, 0},
	} {
		placing, faults, e := pattern.Closest(example.n, example.w, example.p)
		sameResult(t, placing, e, example.wanted, api.OK, example.making)
		same(t, faults, example.faults, example.making)
	}
	for _, m := range manyMakings(seeded()) {
		wanted, fewest := closestIn(m.scheme, m.p)
		placing, faults, e := pattern.Closest(m.n, m.w, m.p)
		sameResult(t, placing, e, wanted, api.OK, m)
		same(t, faults, fewest, m)
	}
}

func TestErrorsOfPlacings(t *testing.T) {
	type proof struct {
		making
		cells [2][2]int
	}
	good := func() proof { return proof{making{plait(), wrong()}, [2][2]int{{0, 0}, {1, 1}}} }
	faults := []fault[proof]{
		{func(x *proof) { x.n = 1 }, api.ErrRange}, {func(x *proof) { x.n = 13 }, api.ErrRange}, {func(x *proof) { x.w = nil }, api.ErrEmpty},
		{func(x *proof) { x.w = make([]int, 25) }, api.ErrMany}, {func(x *proof) { x.w = []int{1, 0} }, api.ErrRange}, {func(x *proof) { x.w = []int{3} }, api.ErrRange},
		{func(x *proof) { x.p = nil }, api.ErrEmpty}, {func(x *proof) { x.p = make([][]int, 25) }, api.ErrMany}, {func(x *proof) { x.p = [][]int{{0, 1}, nil} }, api.ErrEmpty},
		{func(x *proof) { x.p = [][]int{{0}, {0, 1}} }, api.ErrShape}, {func(x *proof) { x.p = [][]int{{0}, {8}} }, api.ErrRange},
		{func(x *proof) { x.p = [][]int{{0}, {0}, {0}} }, api.ErrShape}, {func(x *proof) { x.p = [][]int{{0, 1, 0}, {0, 1, 0}} }, api.ErrShape},
	}
	ofCells := []fault[proof]{
		{func(x *proof) { x.cells[0] = [2]int{0, 2} }, api.ErrRange}, {func(x *proof) { x.cells[1] = [2]int{3, 0} }, api.ErrRange},
		{func(x *proof) { x.cells[1] = [2]int{0, 1} }, api.ErrProof}, {func(x *proof) { x.p = chapterPicture() }, api.ErrProof},
	}
	checkFaults(t, good, slices.Concat(faults, ofCells), func(x proof) api.Errno { return pattern.CheckClash(x.n, x.w, x.p, x.cells) })
	none := []fault[proof]{{func(x *proof) { x.p = chapterPicture() }, api.ErrNone}}
	checkFaults(t, good, slices.Concat(faults, none), func(x proof) api.Errno {
		cells, e := pattern.Clash(x.n, x.w, x.p)
		same(t, cells != [2][2]int{}, e == api.OK)
		return e
	})
	checkFaults(t, good, faults, func(x proof) api.Errno {
		placing, count, e := pattern.Closest(x.n, x.w, x.p)
		same(t, []bool{len(placing) == 3, count == 1}, repeated(2, e == api.OK))
		return e
	})
	none = []fault[proof]{{func(x *proof) { x.p = wrong() }, api.ErrNone}}
	fitting := func() proof { return proof{making: making{plait(), chapterPicture()}} }
	checkFaults(t, fitting, slices.Concat(faults, none), func(x proof) api.Errno {
		list, e := pattern.Placings(x.n, x.w, x.p)
		same(t, len(list) == 3, e == api.OK)
		return e
	})
}
