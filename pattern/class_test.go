package pattern_test

import (
	"math"
	"slices"
	"testing"

	"becket/api"
	"becket/pattern"
)

// The tests of P6.5.

// round is a scheme of 12 strands that makes one cycle, still one that leads each strand back.
func round() scheme {
	return scheme{12, []int{1, 2, 3, 4, 5, 6, 7, 8, 9, 10, 11}}
}

func still() scheme {
	return scheme{12, []int{1, 1}}
}

func TestMoved(t *testing.T) {
	colours, e := pattern.Moved(3, []int{1, -2}, []int{0, 1, 1})
	sameResult(t, colours, e, []int{1, 1, 0}, api.OK)
	colours, e = pattern.Moved(4, []int{1, 2, 3}, []int{4, 5, 6, 7})
	sameResult(t, colours, e, []int{5, 6, 7, 4}, api.OK)
	source := seeded()
	for _, s := range manySchemes() {
		placing := randomPicture(source, 1, s.n, 8)[0]
		colours, e := pattern.Moved(s.n, s.w, placing)
		sameResult(t, colours, e, movedIn(s, placing), api.OK, s, placing)
	}
}

func TestClasses(t *testing.T) {
	for _, example := range []struct {
		s               scheme
		colours, wanted int
	}{
		{plait(), 2, 4}, {plait(), 1, 1}, {plait(), 3, 11}, {scheme{2, []int{1}}, 3, 6}, {scheme{3, []int{1, 1}}, 2, 8}, {scheme{4, []int{1, 3}}, 2, 10},
		{round(), 2, 352}, {round(), 8, 5726645688}, {still(), 8, 68719476736}, {scheme{12, []int{1}}, 8, 38654705664}, {round(), 1, 1}, {still(), 1, 1},
	} {
		count, e := pattern.Classes(example.s.n, example.s.w, example.colours)
		sameResult(t, count, e, example.wanted, api.OK, example)
	}
	for _, s := range smallSchemes() {
		for colours := 1; colours <= 3; colours++ {
			count, e := pattern.Classes(s.n, s.w, colours)
			sameResult(t, count, e, len(listedIn(s, colours)), api.OK, s, colours)
		}
	}
}

func TestCounted(t *testing.T) {
	for _, example := range []struct {
		s       scheme
		bobbins []int
		wanted  int
	}{
		{plait(), []int{1, 2}, 1}, {plait(), []int{3}, 1}, {plait(), []int{1, 1, 1}, 2}, {plait(), []int{0, 3}, 1}, {plait(), []int{0, 1, 0, 0, 2, 0, 0, 0}, 1},
		{scheme{4, []int{1, 3}}, []int{2, 2}, 4}, {scheme{4, []int{1, 2, 3}}, []int{2, 2}, 2}, {round(), []int{6, 6}, 80}, {round(), []int{12}, 1},
		{round(), []int{2, 2, 2, 2, 1, 1, 1, 1}, 2494800}, {still(), []int{2, 2, 2, 2, 1, 1, 1, 1}, 29937600}, {still(), []int{0, 0, 0, 0, 0, 0, 0, 12}, 1},
		{round(), []int{0, 0, 6, 0, 0, 0, 0, 6}, 80}, {still(), []int{6, 6}, 924}, {scheme{12, []int{1}}, []int{11, 1}, 11},
	} {
		count, e := pattern.Counted(example.s.n, example.s.w, example.bobbins)
		sameResult(t, count, e, example.wanted, api.OK, example)
	}
	for _, s := range smallSchemes() {
		wanted := map[[3]int]int{}
		for _, placing := range listedIn(s, 3) {
			wanted[[3]int(bobbinsOf(placing, 3))]++
		}
		for first := range s.n + 1 {
			for second := range s.n - first + 1 {
				bobbins := [3]int{first, second, s.n - first - second}
				count, e := pattern.Counted(s.n, s.w, bobbins[:])
				sameResult(t, count, e, wanted[bobbins], api.OK, s, bobbins)
			}
		}
	}
}

func TestListed(t *testing.T) {
	for _, example := range []struct {
		s       scheme
		colours int
		wanted  [][]int
	}{
		{plait(), 2, [][]int{{0, 0, 0}, {0, 0, 1}, {0, 1, 1}, {1, 1, 1}}}, {plait(), 1, [][]int{{0, 0, 0}}}, {scheme{2, []int{1, 1}}, 2, [][]int{{0, 0}, {0, 1}, {1, 0}, {1, 1}}},
		{scheme{2, []int{1}}, 3, [][]int{{0, 0}, {0, 1}, {0, 2}, {1, 1}, {1, 2}, {2, 2}}}, {round(), 1, [][]int{repeated(12, 0)}},
	} {
		list, e := pattern.Listed(example.s.n, example.s.w, example.colours)
		sameResult(t, list, e, example.wanted, api.OK, example)
	}
	for _, s := range smallSchemes() {
		for colours := 1; colours <= 3; colours++ {
			list, e := pattern.Listed(s.n, s.w, colours)
			sameResult(t, list, e, listedIn(s, colours), api.OK, s, colours)
		}
	}
	list, e := pattern.Listed(12, round().w, 2)
	sameResult(t, list, e, listedIn(round(), 2), api.OK)
}

func TestTheLimitOfListed(t *testing.T) {
	for n := 2; n <= 12; n++ {
		for colours := 1; colours <= 8; colours++ {
			wanted := api.OK
			if math.Pow(float64(colours), float64(n)) > 4096 {
				wanted = api.ErrLimit
			}
			list, e := pattern.Listed(n, []int{1}, colours)
			same(t, e, wanted, n, colours)
			same(t, len(list) > 0, e == api.OK, n, colours)
		}
	}
	list, e := pattern.Listed(12, still().w, 2)
	sameResult(t, len(list), e, 4096, api.OK)
	list, e = pattern.Listed(4, []int{1, 1}, 8)
	sameResult(t, len(list), e, 4096, api.OK)
}

func TestErrorsOfClasses(t *testing.T) {
	type classing struct {
		picturing
		number int
	}
	good := func() classing { return classing{picturing{plait(), []int{1, 2}, 0}, 8} }
	var faults []fault[classing]
	for _, f := range faultsOfSchemes() {
		faults = append(faults, fault[classing]{func(x *classing) { f.make(&x.picturing) }, f.e})
	}
	var numbers []fault[classing]
	for _, number := range []int{0, -1, 9, math.MinInt, math.MaxInt} {
		numbers = append(numbers, fault[classing]{func(x *classing) { x.number = number }, api.ErrRange})
	}
	checkFaults(t, good, slices.Concat(faults, numbers), func(x classing) api.Errno {
		count, e := pattern.Classes(x.n, x.w, x.number)
		same(t, count > 0, e == api.OK)
		return e
	})
	numbers = append(numbers, fault[classing]{func(x *classing) { x.scheme = scheme{12, []int{1}} }, api.ErrLimit})
	checkFaults(t, good, slices.Concat(faults, numbers), func(x classing) api.Errno {
		list, e := pattern.Listed(x.n, x.w, x.number)
		same(t, len(list) > 0, e == api.OK)
		return e
	})
	var bobbins []fault[classing]
	for _, bad := range []badList{
		{make([]int, 9), api.ErrMany}, {repeated(9, 13), api.ErrMany}, {append([]int{3}, make([]int, 8)...), api.ErrMany}, {make([]int, 100000), api.ErrMany},
		{[]int{-1, 4}, api.ErrRange}, {[]int{13}, api.ErrRange}, {[]int{3, math.MinInt}, api.ErrRange}, {[]int{math.MaxInt, math.MaxInt, 5}, api.ErrRange},
		{nil, api.ErrShape}, {[]int{1, 1}, api.ErrShape}, {[]int{4}, api.ErrShape}, {[]int{12, 12}, api.ErrShape}, {make([]int, 8), api.ErrShape},
	} {
		bobbins = append(bobbins, fault[classing]{func(x *classing) { x.colours = bad.l }, bad.e})
	}
	checkFaults(t, good, slices.Concat(faults, bobbins), func(x classing) api.Errno {
		count, e := pattern.Counted(x.n, x.w, x.colours)
		same(t, count > 0, e == api.OK)
		return e
	})
}
