package rope_test

import (
	"math"
	"math/rand"
	"slices"
	"testing"

	"becket/api"
	"becket/rope"
)

// The tests of P3.4 about twists with bounds.

func TestBalanceOfTheChapter(t *testing.T) {
	for _, row := range []struct {
		free   []rope.Free
		twists []api.Rat
	}{
		{[]rope.Free{bounded(2, "0", "100")}, []api.Rat{"25"}}, {[]rope.Free{bounded(2, "25", "25")}, []api.Rat{"25"}},
		{[]rope.Free{bounded(2, "25", "26")}, []api.Rat{"25"}}, {[]rope.Free{bounded(2, "-1/2", "25")}, []api.Rat{"25"}},
		{[]rope.Free{bounded(1, "0", "10"), bounded(2, "0", "100")}, []api.Rat{"10", "15"}},
		{[]rope.Free{bounded(2, "0", "100"), bounded(1, "0", "10")}, []api.Rat{"25", "0"}},
		{[]rope.Free{bounded(0, "-10", "1/3"), bounded(2, "20", "21"), bounded(1, "4", "5")}, []api.Rat{"1/3", "62/3", "4"}},
		{[]rope.Free{bounded(0, "50", "60"), bounded(2, "-30", "-20"), bounded(1, "-1000", "1000")}, []api.Rat{"60", "-20", "-15"}},
	} {
		twists, e := rope.Balance(laid(), row.free)
		same(t, []any{twists, e}, []any{row.twists, api.OK}, row)
		reason, e := rope.Why(laid(), row.free)
		same(t, []any{reason, e}, []any{rope.Reason{}, api.ErrNone}, row)
	}
	for _, row := range []struct {
		free   []rope.Free
		reason rope.Reason
	}{
		{[]rope.Free{bounded(2, "0", "20")}, rope.Reason{End: "high", Moment: "-150"}},
		{[]rope.Free{bounded(2, "26", "27")}, rope.Reason{End: "low", Moment: "30"}},
		{[]rope.Free{bounded(2, "251/10", "126/5")}, rope.Reason{End: "low", Moment: "3"}},
		{[]rope.Free{bounded(1, "0", "24"), bounded(2, "0", "9/10")}, rope.Reason{End: "high", Moment: "-3"}},
		{nil, rope.Reason{End: "high", Moment: "-750"}},
	} {
		twists, e := rope.Balance(laid(), row.free)
		same(t, e, api.ErrInfeasible, row)
		same(t, twists, []api.Rat(nil), row)
		reason, e := rope.Why(laid(), row.free)
		same(t, []any{reason, e}, []any{row.reason, api.OK}, row)
		same(t, rope.CheckWhy(laid(), row.free, reason), api.OK, row)
	}
	mirror, _ := rope.Mirror(laid())
	reason, e := rope.Why(mirror, nil)
	same(t, []any{reason, e}, []any{rope.Reason{End: "low", Moment: "750"}, api.OK}, "no twists are free")
}

// Parts on which the moment does not depend get their greatest twists.
func TestBalanceWithoutStiffness(t *testing.T) {
	soft := bundle("0", "1", "0", "2", "0")
	free := []rope.Free{bounded(1, "-1", "7"), bounded(2, "-9", "4"), bounded(3, "3", "5"), bounded(4, "-3", "9"), bounded(5, "0", "1/2")}
	twists, e := rope.Balance(soft, free)
	same(t, []any{twists, e}, []any{[]api.Rat{"7", "4", "5", "-2", "1/2"}, api.OK})
	slices.Reverse(free)
	twists, e = rope.Balance(soft, free)
	same(t, []any{twists, e}, []any{[]api.Rat{"1/2", "9/2", "5", "-9", "7"}, api.OK})
	limp := bundle("0", "0")
	twists, e = rope.Balance(limp, []rope.Free{bounded(0, "-3", "-2"), bounded(2, "1", "8")})
	same(t, []any{twists, e}, []any{[]api.Rat{"-2", "8"}, api.OK})
	twists, e = rope.Balance(limp, nil)
	same(t, twists, []api.Rat(nil))
	same(t, e, api.OK, "a balanced rope without free parts")
	_, e = rope.Why(limp, nil)
	same(t, e, api.ErrNone)
}

// randomFree returns free parts of a rope, in any order, with bounds of which each distance is at most so wide.
func randomFree(source *rand.Rand, r rope.Rope, wide int) []rope.Free {
	var free []rope.Free
	for _, part := range source.Perm(len(r.Parts))[:source.Intn(min(len(r.Parts), 6)+1)] {
		low := signedRat(source, 2)
		width := times(randomRat(source, 1), whole(source.Intn(wide)))
		free = append(free, bounded(part, rat(low), rat(plus(low, width))))
	}
	return free
}

func TestRandomBalances(t *testing.T) {
	source := seeded()
	counts := map[api.Errno]int{}
	for i := range 600 {
		r := randomRope(source, 12, 2)
		free := randomFree(source, r, []int{3, 100, 100000}[i%3])
		parts := partsOf(free)
		atLow, atHigh := momentIn(withTwists(r, parts, lows(free)), 0), momentIn(withTwists(r, parts, highs(free)), 0)
		twists, e := rope.Balance(r, free)
		reason, errorOfReason := rope.Why(r, free)
		counts[e]++
		if atLow.Sign() > 0 || atHigh.Sign() < 0 {
			wanted := rope.Reason{End: "low", Moment: rat(atLow)}
			if atLow.Sign() <= 0 {
				wanted = rope.Reason{End: "high", Moment: rat(atHigh)}
			}
			same(t, []any{e, reason, errorOfReason}, []any{api.ErrInfeasible, wanted, api.OK}, i)
			same(t, rope.CheckWhy(r, free, reason), api.OK, i)
			continue
		}
		same(t, []any{e, reason, errorOfReason}, []any{api.OK, rope.Reason{}, api.ErrNone}, i)
		checkGreatest(t, r, free, twists)
	}
	same(t, counts[api.OK] > 100 && counts[api.ErrInfeasible] > 100, true, counts)
}

// checkGreatest fails the test if twists are not the lexicographically greatest ones that balance a rope: each one is its
// High, or the moment is 0 with those before and all others at their Low, so that it cannot rise.
func checkGreatest(t *testing.T, r rope.Rope, free []rope.Free, twists []api.Rat) {
	t.Helper()
	same(t, len(twists), len(free))
	tried := lows(free)
	for i, f := range free {
		tried[i] = rat(plus(value(twists[i]), whole(1)))
		above := momentIn(withTwists(r, partsOf(free), tried), 0)
		tried[i] = twists[i]
		at := momentIn(withTwists(r, partsOf(free), tried), 0)
		same(t, value(twists[i]).Cmp(value(f.Low)) >= 0 && value(twists[i]).Cmp(value(f.High)) <= 0, true, "bounds", i)
		same(t, at.Sign() <= 0, true, "a moment that the others cannot take back", i)
		same(t, twists[i] == f.High || at.Sign() == 0 && above.Sign() > 0, true, "could be greater", i, twists, free)
	}
	same(t, momentIn(withTwists(r, partsOf(free), twists), 0).Sign(), 0, "moment")
}

func TestBalanceBeyondTheLimit(t *testing.T) {
	// The moments are some of pieces, times 1 more than the twist of the rope.
	two := bundle(pieces()[:2]...)
	twists, e := rope.Balance(two, []rope.Free{bounded(0, "-9", "9")})
	same(t, []any{twists, e}, []any{[]api.Rat{"-1"}, api.OK})
	for _, free := range [][]rope.Free{{bounded(0, "0", "9")}, {bounded(0, "-9", "-2")}} {
		twists, e = rope.Balance(two, free)
		same(t, e, api.ErrInfeasible)
		same(t, twists, []api.Rat(nil))
		reason, e := rope.Why(two, free)
		same(t, []any{reason, e}, []any{rope.Reason{}, api.ErrLarge}, "a moment with too many digits")
		same(t, rope.CheckWhy(two, free, rope.Reason{End: "low", Moment: "1"}), api.ErrProof)
	}
	reason, e := rope.Why(bundle(pieces()...), []rope.Free{bounded(0, "0", "9")})
	same(t, []any{reason, e}, []any{rope.Reason{End: "low", Moment: "2"}, api.OK})
	fine := bundle(nines(600), ten(599))
	fine.Parts[1].Yarns = 7
	twists, e = rope.Balance(fine, []rope.Free{bounded(2, "-"+nines(600), "0")})
	same(t, e, api.ErrLarge, "a twist with too many digits")
	same(t, twists, []api.Rat(nil))
	twists, e = rope.Balance(fine, []rope.Free{bounded(1, "-1/7", "0"), bounded(2, "-"+nines(600), "0")})
	same(t, e, api.OK)
	same(t, twists, []api.Rat{"0", "0"})
}

func TestCheckWhy(t *testing.T) {
	few, many := []rope.Free{bounded(2, "0", "20")}, []rope.Free{bounded(2, "26", "1000")}
	for _, row := range []struct {
		free   []rope.Free
		reason rope.Reason
		wanted api.Errno
	}{
		{few, rope.Reason{End: "high", Moment: "-150"}, api.OK}, {few, rope.Reason{End: "high", Moment: "-151"}, api.ErrProof},
		{few, rope.Reason{End: "high", Moment: "150"}, api.ErrProof},
		{few, rope.Reason{End: "low", Moment: "-750"}, api.ErrProof}, {few, rope.Reason{End: "low", Moment: "-150"}, api.ErrProof},
		{few, rope.Reason{End: "low", Moment: "1"}, api.ErrProof},
		{many, rope.Reason{End: "low", Moment: "30"}, api.OK}, {many, rope.Reason{End: "high", Moment: "29250"}, api.ErrProof},
		{many, rope.Reason{End: "low", Moment: "61/2"}, api.ErrProof},
		{[]rope.Free{bounded(2, "25", "26")}, rope.Reason{End: "low", Moment: "0"}, api.ErrProof},
		{[]rope.Free{bounded(2, "24", "25")}, rope.Reason{End: "high", Moment: "0"}, api.ErrProof},
		{[]rope.Free{bounded(2, "24", "26")}, rope.Reason{End: "low", Moment: "-30"}, api.ErrProof},
		{[]rope.Free{bounded(2, "24", "26")}, rope.Reason{End: "high", Moment: "30"}, api.ErrProof},
		{nil, rope.Reason{End: "high", Moment: "-750"}, api.OK}, {nil, rope.Reason{End: "low", Moment: "-750"}, api.ErrProof},
		{few, rope.Reason{End: "", Moment: "x"}, api.ErrKind}, {few, rope.Reason{End: "High", Moment: "-150"}, api.ErrKind},
		{few, rope.Reason{End: "middle", Moment: "-150"}, api.ErrKind}, {few, rope.Reason{}, api.ErrKind},
	} {
		same(t, rope.CheckWhy(laid(), row.free, row.reason), row.wanted, row)
	}
	for _, end := range []string{"low", "high"} {
		for _, bad := range badNumbers() {
			same(t, rope.CheckWhy(laid(), few, rope.Reason{End: end, Moment: bad.text}), bad.e, end, bad)
		}
	}
}

// balancing has the arguments of Balance, Why and CheckWhy.
type balancing struct {
	r    rope.Rope
	free []rope.Free
}

func TestErrorsOfFreeParts(t *testing.T) {
	var faults []fault[balancing]
	add := func(e api.Errno, change func(b *balancing)) { faults = append(faults, fault[balancing]{change, e}) }
	add(api.ErrEmpty, func(b *balancing) { b.r.Parts = nil })
	add(api.ErrMany, func(b *balancing) { b.free = make([]rope.Free, 65) })
	for _, part := range []int{6, -1, math.MinInt, math.MaxInt} {
		add(api.ErrUnknown, func(b *balancing) { b.free[1].Part = part })
	}
	add(api.ErrUnknown, func(b *balancing) { b.free[0].Part, b.free[1].Part = 6, 6 })
	add(api.ErrTwice, func(b *balancing) { b.free[1].Part = b.free[0].Part })
	for _, bad := range badNumbers() {
		add(bad.e, func(b *balancing) { b.free[1].Low = bad.text })
	}
	for _, bad := range badNumbers() {
		add(bad.e, func(b *balancing) { b.free[1].High = bad.text })
	}
	add(api.ErrOrder, func(b *balancing) { b.free[1].Low, b.free[1].High = "1/2", "1/3" })
	add(api.ErrUnknown, func(b *balancing) { b.free[2].Part = 7 })
	add(api.ErrOrder, func(b *balancing) { b.free[2].Low, b.free[2].High = "2", "1" })
	good := func() balancing {
		return balancing{cored(), []rope.Free{bounded(3, "-"+nines(9), nines(9)), bounded(2, "0", "1"), bounded(0, "-1", "-1/2")}}
	}
	checkFaults(t, good, faults, func(b balancing) api.Errno {
		twists, e := rope.Balance(b.r, b.free)
		same(t, twists == nil, e != api.OK, e)
		return e
	})
	for _, f := range faults {
		b := good()
		f.make(&b)
		reason, e := rope.Why(b.r, b.free)
		same(t, []any{reason, e}, []any{rope.Reason{}, f.e})
		same(t, rope.CheckWhy(b.r, b.free, rope.Reason{}), f.e)
	}
	all := bundle(slices.Repeat([]api.Rat{"1"}, 63)...)
	var free []rope.Free
	for part := range all.Parts {
		free = append(free, bounded(part, "-1", "-1"))
	}
	_, e := rope.Balance(all, free)
	same(t, e, api.ErrInfeasible, "64 free parts")
}
