package number_test

import (
	"math"
	"math/big"
	"math/rand"
	"slices"
	"testing"

	"becket/api"
	"becket/number"
)

// The tests of P1.3.

// identity returns the permutation that leaves everything where it is.
func identity(n int) []int {
	p := make([]int, n)
	for i := range p {
		p[i] = i
	}
	return p
}

// rounds returns a permutation with cycles of these lengths, one after another.
func rounds(lengths ...int) []int {
	var p []int
	for _, length := range lengths {
		first := len(p)
		for i := range length {
			p = append(p, first+(i+1)%length)
		}
	}
	return p
}

// manyPerms returns permutations of many sizes.
func manyPerms(source *rand.Rand) [][]int {
	list := [][]int{nil, {}, {0}, {0, 1}, {1, 0}, {1, 2, 0, 4, 3}, {0, 2, 1}, {2, 1, 0}, {3, 2, 1, 0}, identity(256), rounds(256), rounds(255, 1)}
	for _, n := range []int{3, 4, 5, 7, 10, 12, 40, 255, 256} {
		for range 8 {
			list = append(list, source.Perm(n))
		}
	}
	return list
}

// badPerms returns lists that are no permutations.
func badPerms() []struct {
	p []int
	e api.Errno
} {
	twice := identity(256)
	twice[255] = 0
	return []struct {
		p []int
		e api.Errno
	}{
		{[]int{1}, api.ErrPerm}, {[]int{-1}, api.ErrPerm}, {[]int{0, 0}, api.ErrPerm}, {[]int{1, 1}, api.ErrPerm}, {[]int{1, 2}, api.ErrPerm},
		{[]int{-1, 0}, api.ErrPerm}, {[]int{0, 2}, api.ErrPerm}, {[]int{0, 1, 1}, api.ErrPerm}, {[]int{0, math.MaxInt}, api.ErrPerm},
		{[]int{math.MinInt, 0}, api.ErrPerm}, {twice, api.ErrPerm}, {make([]int, 256), api.ErrPerm}, {make([]int, 257), api.ErrMany},
		{identity(257), api.ErrMany}, {make([]int, 100000), api.ErrMany},
	}
}

func TestCheckPerm(t *testing.T) {
	for _, p := range manyPerms(seeded()) {
		same(t, number.CheckPerm(p), api.OK, p)
	}
	for _, bad := range badPerms() {
		same(t, number.CheckPerm(bad.p), bad.e, len(bad.p))
	}
}

func TestErrorsOfPerms(t *testing.T) {
	for _, bad := range badPerms() {
		c, e := number.Cycles(bad.p)
		same(t, e, bad.e, "Cycles")
		same(t, len(c), 0, "Cycles")
		n, e := number.Period(bad.p)
		same(t, e, bad.e, "Period")
		same(t, n, api.Rat(""), "Period")
		p, e := number.Inverse(bad.p)
		same(t, e, bad.e, "Inverse")
		same(t, len(p), 0, "Inverse")
		for _, k := range []int{0, 1, -1, 7} {
			p, e = number.Power(bad.p, k)
			same(t, e, bad.e, "Power")
			same(t, len(p), 0, "Power")
		}
		for _, other := range [][]int{nil, {0}, {0, 1}, identity(256), {5}, make([]int, 300)} {
			p, e = number.Compose(bad.p, other)
			same(t, e, bad.e, "Compose")
			same(t, len(p), 0, "Compose")
		}
		for _, other := range [][]int{nil, {0}, {0, 1}, identity(256)} {
			p, e = number.Compose(other, bad.p)
			same(t, e, bad.e, "Compose")
			same(t, len(p), 0, "Compose")
		}
	}
	for _, pair := range [][2][]int{{nil, {0}}, {{0}, nil}, {{0}, {1, 0}}, {{1, 0}, {0}}, {identity(256), identity(255)}} {
		p, e := number.Compose(pair[0], pair[1])
		same(t, e, api.ErrShape, "Compose")
		same(t, len(p), 0, "Compose")
	}
}

func TestCompose(t *testing.T) {
	source := seeded()
	for _, p := range manyPerms(source) {
		for range 3 {
			q := source.Perm(len(p))
			wanted := make([]int, len(p))
			for i := range p {
				wanted[i] = q[p[i]]
			}
			got, e := number.Compose(p, q)
			same(t, e, api.OK, "Compose")
			same(t, got, wanted, "Compose", p, q)
		}
	}
	got, _ := number.Compose([]int{1, 2, 0}, []int{0, 2, 1})
	same(t, got, []int{2, 1, 0}, "first p, then q")
}

func TestInverse(t *testing.T) {
	for _, p := range manyPerms(seeded()) {
		wanted := make([]int, len(p))
		for i, place := range p {
			wanted[place] = i
		}
		got, e := number.Inverse(p)
		same(t, e, api.OK, "Inverse")
		same(t, got, wanted, "Inverse", p)
	}
}

// wantedCycles follows the definition.
func wantedCycles(p []int) [][]int {
	var cycles [][]int
	met := map[int]bool{}
	for i := range p {
		if met[i] {
			continue
		}
		var cycle []int
		for place := i; !met[place]; place = p[place] {
			met[place] = true
			cycle = append(cycle, place)
		}
		cycles = append(cycles, cycle)
	}
	return cycles
}

func TestCycles(t *testing.T) {
	for _, row := range []struct {
		p      []int
		wanted [][]int
	}{
		{nil, nil}, {[]int{0}, [][]int{{0}}}, {[]int{1, 2, 0, 4, 3}, [][]int{{0, 1, 2}, {3, 4}}}, {[]int{0, 2, 1}, [][]int{{0}, {1, 2}}},
		{[]int{2, 1, 0}, [][]int{{0, 2}, {1}}}, {[]int{2, 0, 1}, [][]int{{0, 2, 1}}}, {[]int{4, 3, 2, 1, 0}, [][]int{{0, 4}, {1, 3}, {2}}},
	} {
		got, e := number.Cycles(row.p)
		same(t, e, api.OK, row.p)
		same(t, got, row.wanted, row.p)
	}
	for _, p := range manyPerms(seeded()) {
		got, e := number.Cycles(p)
		same(t, e, api.OK, p)
		same(t, got, wantedCycles(p), p)
	}
}

func TestPeriod(t *testing.T) {
	for _, row := range []struct {
		p      []int
		wanted api.Rat
	}{
		{nil, "1"}, {[]int{0}, "1"}, {identity(256), "1"}, {[]int{1, 0}, "2"}, {[]int{1, 2, 0, 4, 3}, "6"}, {rounds(256), "256"}, {rounds(4, 6), "12"},
		{rounds(2, 4, 8), "8"}, {rounds(4, 9, 5, 7, 11, 13, 17, 19, 23, 29, 31, 37, 41), "1825501581163260"}, {rounds(251, 5), "1255"},
	} {
		got, e := number.Period(row.p)
		same(t, e, api.OK, row.p)
		same(t, got, row.wanted, row.p)
	}
	for _, p := range manyPerms(seeded()) {
		wanted := big.NewInt(1)
		for _, cycle := range wantedCycles(p) {
			length := big.NewInt(int64(len(cycle)))
			common := new(big.Int).GCD(nil, nil, wanted, length)
			wanted.Mul(wanted, length.Div(length, common))
		}
		got, e := number.Period(p)
		same(t, e, api.OK, p)
		same(t, got, api.Rat(wanted.String()), p)
	}
}

// wantedPower goes round each cycle by the remainder of k.
func wantedPower(p []int, k int) []int {
	power := make([]int, len(p))
	for _, cycle := range wantedCycles(p) {
		length := big.NewInt(int64(len(cycle)))
		steps := int(new(big.Int).Mod(big.NewInt(int64(k)), length).Int64())
		for i, place := range cycle {
			power[place] = cycle[(i+steps)%len(cycle)]
		}
	}
	return power
}

func TestPower(t *testing.T) {
	p := []int{1, 2, 0, 4, 3}
	for _, row := range []struct {
		k      int
		wanted []int
	}{
		{0, identity(5)}, {1, p}, {2, []int{2, 0, 1, 3, 4}}, {3, []int{0, 1, 2, 4, 3}}, {5, []int{2, 0, 1, 4, 3}}, {-1, []int{2, 0, 1, 4, 3}},
		{6, identity(5)}, {-6, identity(5)}, {-2, []int{1, 2, 0, 3, 4}}, {6000000001, p},
	} {
		got, e := number.Power(p, row.k)
		same(t, e, api.OK, row.k)
		same(t, got, row.wanted, row.k)
	}
	for _, p := range manyPerms(seeded()) {
		for _, k := range []int{0, 1, -1, 2, -2, 3, 12, -35, 1000, 999999937, math.MaxInt, math.MinInt, math.MinInt + 1, math.MaxInt - 1} {
			got, e := number.Power(p, k)
			same(t, e, api.OK, k)
			same(t, got, wantedPower(p, k), p, k)
		}
	}
}

// A result shares no memory with an argument, nor its parts with one another, and an argument stays as it is.
func TestMemoryOfPerms(t *testing.T) {
	p, q := []int{1, 2, 0, 4, 3}, []int{0, 1, 2, 3, 4}
	kept := slices.Clone(p)
	results := [][]int{}
	for _, call := range []func() ([]int, api.Errno){
		func() ([]int, api.Errno) { return number.Compose(p, q) },
		func() ([]int, api.Errno) { return number.Compose(q, p) },
		func() ([]int, api.Errno) { return number.Inverse(p) },
		func() ([]int, api.Errno) { return number.Power(p, 0) },
		func() ([]int, api.Errno) { return number.Power(p, 1) },
		func() ([]int, api.Errno) { return number.Power(p, 7) },
	} {
		result, _ := call()
		results = append(results, result)
	}
	cycles, _ := number.Cycles(p)
	cycles[0] = append(cycles[0], 99)
	same(t, cycles[1], []int{3, 4}, "the cycle behind one that is longer now")
	for _, result := range append(results, cycles...) {
		for i := range result {
			result[i] = -7
		}
	}
	same(t, p, kept, "the argument")
	same(t, q, identity(5), "the argument")
	again, _ := number.Cycles(p)
	same(t, again, [][]int{{0, 1, 2}, {3, 4}}, "the cycles, once more")
}
