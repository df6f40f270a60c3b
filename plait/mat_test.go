package plait_test

import (
	"math"
	"slices"
	"strconv"
	"strings"
	"testing"

	"becket/api"
	"becket/plait"
)

// The tests of P7.4.

func TestSennit(t *testing.T) {
	for _, example := range []struct {
		n, steps int
		wanted   []plait.Pass
	}{
		{4, 2, []plait.Pass{{From: 1, To: 3, Way: "ou"}, {From: 4, To: 2, Way: "ou"}}}, {4, 0, nil}, {2, 2, []plait.Pass{{From: 1, To: 2, Way: "o"}, {From: 2, To: 1, Way: "o"}}},
		{3, 3, []plait.Pass{{From: 1, To: 2, Way: "o"}, {From: 3, To: 2, Way: "o"}, {From: 1, To: 2, Way: "o"}}}, {5, 2, []plait.Pass{{From: 1, To: 3, Way: "ou"}, {From: 5, To: 3, Way: "ou"}}},
		{12, 1, []plait.Pass{{From: 1, To: 7, Way: "ououou"}}}, {11, 2, []plait.Pass{{From: 1, To: 6, Way: "ououo"}, {From: 11, To: 6, Way: "ououo"}}},
	} {
		l, e := plait.Sennit(example.n, example.steps)
		sameResult(t, l, e, example.wanted, api.OK, example)
	}
	for n := 2; n <= 12; n++ {
		for _, steps := range []int{0, 1, 2, 7, 999, 1000} {
			l, e := plait.Sennit(n, steps)
			same(t, e, api.OK, n, steps)
			same(t, len(l), steps, n, steps)
			same(t, plait.CheckPasses(n, l), api.OK, n, steps)
			for i, p := range l {
				half := (n - n%2) / 2
				same(t, strings.HasPrefix("ouououou", p.Way) && len(p.Way) == half, true, n, steps, p)
				same(t, [2]int{p.From, p.To}, [][2]int{{1, half + 1}, {n, n - half}}[i%2], n, steps, i)
			}
		}
	}
	for _, n := range append(extremes(), 0, 1, 13) {
		for _, steps := range []int{0, 2, 1001, -1} {
			l, e := plait.Sennit(n, steps)
			sameResult(t, l, e, []plait.Pass{}, api.ErrRange, n, steps)
		}
	}
	for _, steps := range []int{-1, 1001, math.MinInt, math.MaxInt} {
		l, e := plait.Sennit(4, steps)
		sameResult(t, l, e, []plait.Pass{}, api.ErrRange, steps)
	}
}

func TestRepeat(t *testing.T) {
	for _, example := range []struct {
		n      int
		l      []plait.Pass
		wanted api.Rat
	}{
		{3, chapterPasses(), "3"}, {3, nil, "1"}, {2, []plait.Pass{{From: 1, To: 2, Way: "o"}}, "2"}, {12, []plait.Pass{{From: 12, To: 1, Way: "ouououououo"}}, "12"},
		{12, []plait.Pass{{From: 1, To: 3, Way: "oo"}, {From: 4, To: 7, Way: "uuu"}, {From: 12, To: 8, Way: "oooo"}}, "60"}, {12, []plait.Pass{{From: 3, To: 5, Way: "oo"}}, "3"},
		{3, []plait.Pass{{From: 1, To: 3, Way: "oo"}, {From: 3, To: 1, Way: "oo"}}, "1"}, {2, repeated(1000, plait.Pass{From: 1, To: 2, Way: "o"}), "1"}, {2, repeated(999, plait.Pass{From: 1, To: 2, Way: "o"}), "2"},
	} {
		count, e := plait.Repeat(example.n, example.l)
		sameResult(t, count, e, example.wanted, api.OK, example.n)
	}
	for _, x := range manyLacings() {
		wanted, at := 1, rowAfter(positionsIn(x.n), x.l)
		for ; !slices.Equal(at, positionsIn(x.n)); wanted++ {
			at = rowAfter(at, x.l)
		}
		count, e := plait.Repeat(x.n, x.l)
		sameResult(t, count, e, api.Rat(strconv.Itoa(wanted)), api.OK, x.n, x.l)
	}
	long := repeated(1000, plait.Pass{From: 1, To: 12, Way: strings.Repeat("u", 11)}) // with more letters than a word
	count, e := plait.Repeat(12, long)
	sameResult(t, count, e, api.Rat("3"), api.OK)
}

func TestMatsOfTheChapter(t *testing.T) {
	for _, example := range []struct {
		leads, bights int
		routes        [][]int
		rows          []string
		head          []int
	}{
		{3, 4, [][]int{{0, 3, 2, 1}}, []string{"////", `\\\\`}, []int{1, -2, 1, -2, 1, -2, 1, -2}}, {4, 6, [][]int{{0, 4, 2}, {1, 5, 3}}, []string{"//////", `\\\\\\`, "//////"}, slices.Repeat([]int{1, -2, 3}, 6)},
		{3, 2, [][]int{{0, 1}}, []string{"//", `\\`}, []int{1, -2, 1, -2}}, {2, 2, [][]int{{0}, {1}}, []string{"//"}, []int{1, 1}}, {2, 3, [][]int{{0, 2, 1}}, []string{"///"}, []int{1, 1, 1}},
		{5, 2, [][]int{{0, 1}}, []string{"//", `\\`, "//", `\\`}, []int{1, -2, 3, -4, 1, -2, 3, -4}}, {6, 3, [][]int{{0}, {1}, {2}}, []string{"///", `\\\`, "///", `\\\`, "///"}, slices.Repeat([]int{1, -2, 3, -4, 5}, 3)},
	} {
		count, e := plait.Strands(example.leads, example.bights)
		sameResult(t, count, e, len(example.routes), api.OK, example)
		for strand, wanted := range example.routes {
			route, e := plait.Route(example.leads, example.bights, strand)
			sameResult(t, route, e, wanted, api.OK, example, strand)
		}
		rows, e := plait.Mat(example.leads, example.bights)
		sameResult(t, rows, e, example.rows, api.OK, example)
		head, e := plait.Head(example.leads, example.bights)
		sameResult(t, head, e, example.head, api.OK, example)
	}
}

func TestAllMats(t *testing.T) {
	for leads := 2; leads <= 100; leads++ {
		for bights := 2; bights <= 100; bights++ {
			divisor := divisorOf(leads, bights)
			count, e := plait.Strands(leads, bights)
			sameResult(t, count, e, divisor, api.OK, leads, bights)
			for _, strand := range []int{0, divisor / 2, divisor - 1} {
				wanted := []int{strand}
				for bight := (strand + leads) % bights; bight != strand; bight = (bight + leads) % bights {
					wanted = append(wanted, bight)
				}
				route, e := plait.Route(leads, bights, strand)
				sameResult(t, route, e, wanted, api.OK, leads, bights, strand)
			}
			for _, strand := range append(extremes(), divisor) {
				route, e := plait.Route(leads, bights, strand)
				sameResult(t, route, e, []int{}, api.ErrUnknown, leads, bights, strand)
			}
			checkHead(t, leads, bights)
		}
	}
	for leads := 2; leads <= 100; leads += 7 {
		for bights := 2; bights <= 100; bights += 14 {
			rows, e := plait.Mat(leads, bights)
			same(t, e, api.OK, leads, bights)
			same(t, len(rows), leads-1, leads, bights)
			for i, row := range rows {
				same(t, row, strings.Repeat([]string{"/", `\`}[i%2], bights), leads, bights, i)
			}
		}
	}
}

// checkHead fails the test if the word of a mat is not what the chapter tells.
func checkHead(t *testing.T, leads, bights int) {
	t.Helper()
	head, e := plait.Head(leads, bights)
	if leads > 12 || (leads-1)*bights > 200 {
		sameResult(t, head, e, []int{}, api.ErrMany, leads, bights)
		return
	}
	all := []int{1, -2, 3, -4, 5, -6, 7, -8, 9, -10, 11}
	sameResult(t, head, e, slices.Repeat(all[:leads-1], bights), api.OK, leads, bights)
}

func TestTheGreatestHeads(t *testing.T) {
	for _, example := range []struct {
		leads, bights int
		e             api.Errno
	}{
		{2, 100, api.OK}, {3, 100, api.OK}, {4, 66, api.OK}, {4, 67, api.ErrMany}, {12, 18, api.OK}, {12, 19, api.ErrMany}, {11, 20, api.OK}, {11, 21, api.ErrMany}, {13, 2, api.ErrMany}, {100, 100, api.ErrMany},
	} {
		head, e := plait.Head(example.leads, example.bights)
		same(t, e, example.e, example)
		same(t, len(head) == (example.leads-1)*example.bights, e == api.OK, example)
	}
}

func TestErrorsOfMats(t *testing.T) {
	sizes := append(extremes(), 0, 1, 101)
	for _, wrong := range sizes {
		for _, other := range append(sizes, 2, 3, 100) {
			for _, mat := range [][2]int{{wrong, other}, {other, wrong}} {
				count, e := plait.Strands(mat[0], mat[1])
				sameResult(t, count, e, 0, api.ErrRange, mat)
				for _, strand := range []int{0, -1, 99, math.MaxInt} {
					route, e := plait.Route(mat[0], mat[1], strand)
					sameResult(t, route, e, []int{}, api.ErrRange, mat, strand)
				}
				rows, e := plait.Mat(mat[0], mat[1])
				sameResult(t, rows, e, []string{}, api.ErrRange, mat)
				head, e := plait.Head(mat[0], mat[1])
				sameResult(t, head, e, []int{}, api.ErrRange, mat)
			}
		}
	}
}
