package rope_test

import (
	"math"
	"math/big"
	"math/rand"
	"slices"
	"testing"

	"becket/api"
	"becket/rope"
)

// The tests of P3.4 about equations.

// equations returns, for each part that has to be balanced, the multiples of the twists of free parts, and the number
// that the moment has without them. The model finds them by trying the twists 0 and 1.
func equations(r rope.Rope, balanced, free []int) (rows [][]*big.Rat, numbers []*big.Rat) {
	zeros := slices.Repeat([]api.Rat{"0"}, len(free))
	for _, part := range balanced {
		number := momentIn(withTwists(r, free, zeros), part)
		var row []*big.Rat
		for i := range free {
			unit := slices.Clone(zeros)
			unit[i] = "1"
			row = append(row, new(big.Rat).Sub(momentIn(withTwists(r, free, unit), part), number))
		}
		rows, numbers = append(rows, row), append(numbers, number)
	}
	return rows, numbers
}

// solved tells whether equations (multiples and numbers whose sum is 0) have a solution, and returns the only one.
func solved(rows [][]*big.Rat, numbers []*big.Rat) (solution []*big.Rat, solvable bool) {
	unknowns, done := len(rows[0]), 0
	var table [][]*big.Rat
	for i, row := range rows {
		table = append(table, append(slices.Clone(row), new(big.Rat).Neg(numbers[i])))
	}
	for column := range unknowns {
		at := slices.IndexFunc(table[done:], func(row []*big.Rat) bool { return row[column].Sign() != 0 })
		if at < 0 {
			continue
		}
		table[done], table[done+at] = table[done+at], table[done]
		pivot := table[done]
		for i, row := range table {
			if i == done {
				continue
			}
			factor := new(big.Rat).Quo(row[column], pivot[column])
			for k := range row {
				row[k] = new(big.Rat).Sub(row[k], times(factor, pivot[k]))
			}
		}
		done++
	}
	for _, row := range table[done:] {
		if row[unknowns].Sign() != 0 {
			return nil, false
		}
	}
	if done < unknowns {
		return nil, true
	}
	for i := range unknowns {
		solution = append(solution, new(big.Rat).Quo(table[i][unknowns], table[i][i]))
	}
	return solution, true
}

// proves tells whether multipliers prove that equations have no solution.
func proves(rows [][]*big.Rat, numbers []*big.Rat, y []api.Rat) bool {
	number := new(big.Rat)
	for i := range rows {
		number = plus(number, times(value(y[i]), numbers[i]))
	}
	for k := range rows[0] {
		multiple := new(big.Rat)
		for i := range rows {
			multiple = plus(multiple, times(value(y[i]), rows[i][k]))
		}
		if multiple.Sign() != 0 {
			return false
		}
	}
	return number.Sign() != 0
}

func TestFixOfTheChapter(t *testing.T) {
	for _, row := range []struct {
		balanced, free []int
		twists         []api.Rat
		e              api.Errno
	}{
		{[]int{0}, []int{2}, []api.Rat{"25"}, api.OK}, {[]int{2}, []int{1}, []api.Rat{"25"}, api.OK}, {[]int{1}, []int{0}, []api.Rat{"25"}, api.OK},
		{[]int{0, 1}, []int{1, 2}, nil, api.ErrSingular}, {[]int{0, 2}, []int{2, 0}, nil, api.ErrSingular}, {[]int{2}, []int{2}, []api.Rat{"25"}, api.OK},
	} {
		twists, e := rope.Fix(laid(), row.balanced, row.free)
		same(t, e, row.e, row)
		same(t, twists, row.twists, row)
	}
	twists, e := rope.Fix(bundle("1", "2", "3"), []int{3, 0, 1}, []int{1, 2, 3})
	same(t, []any{twists, e}, []any{[]api.Rat{"0", "0", "0"}, api.OK}, "in the order of the free parts")
	r := cored()
	twists, e = rope.Fix(r, []int{4, 3}, []int{3, 4})
	same(t, []any{twists, e}, []any{[]api.Rat{"0", "100/7"}, api.OK})
	for _, lists := range [][2][]int{{{1}, {4}}, {{4}, {1}}, {{1, 4}, {4, 3}}} {
		twists, e = rope.Fix(r, lists[0], lists[1])
		same(t, e, api.ErrSingular, "a free part that is none of theirs", lists)
		same(t, twists, []api.Rat(nil))
	}
	twists, e = rope.Fix(bundle("0"), []int{0}, []int{1})
	same(t, e, api.ErrSingular, "balanced with any twist")
	same(t, twists, []api.Rat(nil))
}

// someParts returns different parts of a rope, in any order.
func someParts(source *rand.Rand, r rope.Rope, count int) []int {
	return source.Perm(len(r.Parts))[:min(count, len(r.Parts))]
}

func TestRandomFixes(t *testing.T) {
	source := seeded()
	counts := map[api.Errno]int{}
	for i := range 500 {
		r := randomRope(source, 14, 2)
		balanced := someParts(source, r, 1+source.Intn(8))
		free := someParts(source, r, len(balanced))
		if i%2 == 0 { // these are not singular so often
			free = slices.Clone(balanced)
			slices.Sort(free)
		}
		var wanted []api.Rat
		code := api.ErrSingular
		if solution, _ := solved(equations(r, balanced, free)); solution != nil {
			code = api.OK
			for _, twist := range solution {
				wanted = append(wanted, rat(twist))
			}
		}
		twists, e := rope.Fix(r, balanced, free)
		same(t, e, code, i, balanced, free)
		same(t, twists, wanted, i, balanced, free)
		counts[e]++
	}
	same(t, counts[api.OK] > 80 && counts[api.ErrSingular] > 80, true, counts)
}

func TestRandomRefutations(t *testing.T) {
	source := seeded()
	counts := map[api.Errno]int{}
	for i := range 500 {
		r := randomRope(source, 14, 2)
		balanced, free := someParts(source, r, 1+source.Intn(8)), someParts(source, r, source.Intn(9))
		rows, numbers := equations(r, balanced, free)
		code := api.OK
		if _, solvable := solved(rows, numbers); solvable {
			code = api.ErrNone
		}
		y, e := rope.Refute(r, balanced, free)
		same(t, e, code, i, balanced, free)
		counts[e]++
		if e != api.OK {
			same(t, y, []api.Rat(nil), i)
			continue
		}
		same(t, len(y), len(balanced), i)
		same(t, proves(rows, numbers, y), true, i, balanced, free, y)
		same(t, rope.CheckRefute(r, balanced, free, y), api.OK, i, balanced, free, y)
		y[source.Intn(len(y))] = rat(signedRat(source, 1))
		wanted := api.ErrProof
		if proves(rows, numbers, y) {
			wanted = api.OK
		}
		same(t, rope.CheckRefute(r, balanced, free, y), wanted, "changed", i, balanced, free, y)
	}
	same(t, counts[api.OK] > 100 && counts[api.ErrNone] > 100, true, counts)
}

func TestRefuteOfTheChapter(t *testing.T) {
	y, e := rope.Refute(laid(), []int{0}, []int{2})
	same(t, e, api.ErrNone)
	same(t, y, []api.Rat(nil))
	for _, free := range [][]int{nil, {}} {
		y, e = rope.Refute(laid(), []int{0}, free)
		same(t, e, api.OK)
		same(t, rope.CheckRefute(laid(), []int{0}, free, y), api.OK)
	}
	for _, row := range []struct {
		balanced, free []int
		y              []api.Rat
		wanted         api.Errno
	}{
		{[]int{0}, nil, []api.Rat{"-7/3"}, api.OK}, {[]int{0}, nil, []api.Rat{"0"}, api.ErrProof}, {[]int{0}, []int{2}, []api.Rat{"1"}, api.ErrProof},
		{[]int{0, 1}, nil, []api.Rat{"1", "1"}, api.OK}, {[]int{0, 1}, nil, []api.Rat{"1", "-3"}, api.ErrProof},
		{[]int{0, 1}, nil, []api.Rat{"0", "5"}, api.OK},
		{[]int{0, 1}, []int{2}, []api.Rat{"1", "-3"}, api.ErrProof}, {[]int{0, 1}, nil, []api.Rat{"-1", "5/2"}, api.OK},
	} {
		same(t, rope.CheckRefute(laid(), row.balanced, row.free, row.y), row.wanted, row)
	}
	// Both parts have turns of their own that the twist of the rope cannot take back at once.
	two := bundle("3", "5")
	two.Parts[2].Twist = "2"
	same(t, rope.CheckRefute(two, []int{1, 2}, []int{0}, []api.Rat{"5", "-3"}), api.OK)
	same(t, rope.CheckRefute(two, []int{2, 1}, []int{0}, []api.Rat{"5", "-3"}), api.ErrProof)
	same(t, rope.CheckRefute(two, []int{1, 2}, []int{0}, []api.Rat{"5", "3"}), api.ErrProof)
	same(t, rope.CheckRefute(two, []int{1, 2}, []int{0, 1}, []api.Rat{"5", "-3"}), api.ErrProof)
}

func TestEquationsBeyondTheLimit(t *testing.T) {
	twists, e := rope.Fix(bundle(pieces()[:2]...), []int{0}, []int{0})
	same(t, []any{twists, e}, []any{[]api.Rat{"-1"}, api.OK}, "its multiple has 1200 digits")
	twists, e = rope.Fix(bundle(pieces()...), []int{0}, []int{0})
	same(t, []any{twists, e}, []any{[]api.Rat{"-1"}, api.OK})
	fine := bundle(nines(600), ten(599))
	fine.Parts[1].Yarns = 7
	twists, e = rope.Fix(fine, []int{0}, []int{2})
	same(t, e, api.ErrLarge)
	same(t, twists, []api.Rat(nil))
	long := bundle("1/"+nines(500), "1/"+ten(499))
	long.Parts[2].Twist = "2"
	for _, balanced := range [][]int{{0, 1}, {1, 0}, {2, 0, 1}} {
		y, e := rope.Refute(long, balanced, []int{0})
		same(t, e, api.OK, balanced)
		same(t, rope.CheckRefute(long, balanced, []int{0}, y), api.OK, balanced)
		rows, numbers := equations(long, balanced, []int{0})
		same(t, proves(rows, numbers, y), true, balanced)
	}
	y, e := rope.Refute(bundle(pieces()[:2]...), []int{0}, nil)
	same(t, e, api.OK, "a moment with too many digits")
	same(t, rope.CheckRefute(bundle(pieces()[:2]...), []int{0}, nil, y), api.OK)
}

// fixing has the arguments of Fix, Refute and CheckRefute.
type fixing struct {
	r              rope.Rope
	balanced, free []int
	y              []api.Rat
}

// listFaults returns the faults of the rope and of both lists, in the order of their errors.
func listFaults() []fault[fixing] {
	var faults []fault[fixing]
	add := func(e api.Errno, change func(f *fixing)) { faults = append(faults, fault[fixing]{change, e}) }
	add(api.ErrUnknown, func(f *fixing) { f.r.Parts[0].Parent = 0 })
	for _, field := range []func(f *fixing) *[]int{func(f *fixing) *[]int { return &f.balanced }, func(f *fixing) *[]int { return &f.free }} {
		add(api.ErrMany, func(f *fixing) { *field(f) = make([]int, 65) })
		for _, part := range []int{10, -1, math.MinInt, math.MaxInt} {
			add(api.ErrUnknown, func(f *fixing) { *field(f) = []int{1, part, 1} })
		}
		add(api.ErrUnknown, func(f *fixing) { *field(f) = []int{10, 10} })
		add(api.ErrTwice, func(f *fixing) { *field(f) = []int{1, 1, 10} })
		add(api.ErrTwice, func(f *fixing) { *field(f) = []int{0, 3, 2, 3} })
	}
	return faults
}

// ofTen returns arguments without an error, of a rope of ten parts.
func ofTen(balanced, free []int, y []api.Rat) func() fixing {
	return func() fixing {
		r := cored()
		for _, name := range []string{"six", "seven", "eight", "nine"} {
			r.Parts = append(r.Parts, core(name, 0, 1, "1", "1"))
		}
		return fixing{r, balanced, free, y}
	}
}

func TestErrorsOfFix(t *testing.T) {
	faults := listFaults()
	add := func(e api.Errno, balanced, free []int) {
		faults = append(faults, fault[fixing]{func(f *fixing) { f.balanced, f.free = balanced, free }, e})
	}
	add(api.ErrShape, nil, nil)
	add(api.ErrShape, []int{1}, nil)
	add(api.ErrShape, nil, []int{1})
	add(api.ErrShape, []int{1, 2}, []int{3})
	nine := []int{0, 1, 2, 3, 4, 5, 6, 7, 8}
	add(api.ErrShape, nine, nine[:8])
	add(api.ErrMany, nine, nine)
	add(api.ErrSingular, []int{1, 2, 3, 4, 5, 6, 7, 8}, []int{8, 7, 6, 5, 4, 3, 2, 0})
	checkFaults(t, ofTen([]int{3, 4}, []int{3, 4}, nil), faults, func(f fixing) api.Errno {
		twists, e := rope.Fix(f.r, f.balanced, f.free)
		same(t, twists == nil, e != api.OK, e)
		return e
	})
	most := bundle(slices.Repeat([]api.Rat{"1"}, 8)...)
	twists, e := rope.Fix(most, []int{8, 7, 6, 5, 4, 3, 2, 1}, []int{1, 2, 3, 4, 5, 6, 7, 8})
	same(t, []any{twists, e}, []any{slices.Repeat([]api.Rat{"0"}, 8), api.OK}, "eight parts")
}

func TestErrorsOfRefutations(t *testing.T) {
	refutable := ofTen([]int{3, 4}, []int{1, 5}, []api.Rat{"1", "0"})
	faults := listFaults()
	add := func(e api.Errno, change func(f *fixing)) { faults = append(faults, fault[fixing]{change, e}) }
	nine := []int{0, 1, 2, 3, 4, 5, 6, 7, 8}
	add(api.ErrEmpty, func(f *fixing) { f.balanced, f.y = nil, nil })
	add(api.ErrEmpty, func(f *fixing) { f.balanced, f.free = nil, nine })
	add(api.ErrMany, func(f *fixing) { f.balanced = nine })
	add(api.ErrMany, func(f *fixing) { f.free = nine })
	checkFaults(t, refutable, faults, func(f fixing) api.Errno {
		y, e := rope.Refute(f.r, f.balanced, f.free)
		same(t, y == nil, e != api.OK, e)
		return e
	})
	add(api.ErrShape, func(f *fixing) { f.y = nil })
	add(api.ErrShape, func(f *fixing) { f.y = []api.Rat{"x"} })
	add(api.ErrShape, func(f *fixing) { f.y = []api.Rat{"1", "0", "x"} })
	for _, bad := range badNumbers() {
		add(bad.e, func(f *fixing) { f.y = []api.Rat{"1", bad.text} })
	}
	add(api.ErrForm, func(f *fixing) { f.y = []api.Rat{"", nines(601)} })
	add(api.ErrProof, func(f *fixing) { f.y = []api.Rat{"0", "0"} })
	checkFaults(t, refutable, faults, func(f fixing) api.Errno { return rope.CheckRefute(f.r, f.balanced, f.free, f.y) })
	many, eight := bundle(slices.Repeat([]api.Rat{"1"}, 8)...), []int{8, 7, 6, 5, 4, 3, 2, 1}
	_, e := rope.Refute(many, eight, eight)
	same(t, e, api.ErrNone, "eight parts")
	y, e := rope.Refute(many, eight, nil)
	same(t, []any{rope.CheckRefute(many, eight, nil, y), e}, []any{api.OK, api.OK})
}
