package splice_test

import (
	"math/big"
	"strings"
	"testing"

	"becket/api"
	"becket/splice"
)

// The tests of P8.3.

func TestCheckSling(t *testing.T) {
	for _, s := range append(manySlings(), splice.Sling{Legs: 1, Height: 1}, splice.Sling{Legs: 4, Height: 100000, Spread: 100000}) {
		same(t, splice.CheckSling(s), api.OK, s)
	}
	for _, bad := range badSlings() {
		same(t, splice.CheckSling(bad), api.ErrRange, bad)
		cosine, e := splice.Cosine(bad)
		sameResult(t, cosine, e, api.Rat(""), api.ErrRange, bad)
	}
}

func TestCosine(t *testing.T) {
	for _, example := range []struct {
		s      splice.Sling
		wanted api.Rat
	}{
		{splice.Sling{Legs: 2, Height: 4, Spread: 3}, "16/25"}, {splice.Sling{Legs: 4, Height: 3, Spread: 4}, "9/25"}, {splice.Sling{Legs: 1, Height: 7}, "1"}, {splice.Sling{Legs: 3, Height: 9, Spread: 9}, "1/2"},
		{splice.Sling{Legs: 3, Height: 1, Spread: 100000}, "1/10000000001"}, {splice.Sling{Legs: 3, Height: 100000, Spread: 1}, "10000000000/10000000001"},
	} {
		cosine, e := splice.Cosine(example.s)
		sameResult(t, cosine, e, example.wanted, api.OK, example.s)
	}
	for _, s := range manySlings() {
		cosine, e := splice.Cosine(s)
		sameResult(t, cosine, e, rat(ratio(s.Height*s.Height, s.Height*s.Height+s.Spread*s.Spread)), api.OK, s)
	}
}

func TestLeg(t *testing.T) {
	three, ends := splice.Sling{Legs: 4, Height: 4, Spread: 3}, splice.Sling{Legs: 2, Height: 1, Spread: 1}
	for _, example := range []struct {
		s         splice.Sling
		load      api.Rat
		low, high api.Rat
		e         api.Errno
	}{
		{splice.Sling{Legs: 2, Height: 4, Spread: 3}, "80", "50", "50", api.OK}, {splice.Sling{Legs: 1, Height: 4, Spread: 3}, "80", "100", "100", api.OK},
		{splice.Sling{Legs: 3, Height: 4, Spread: 3}, "80", "100/3", "100/3", api.OK}, {three, "80", "100/3", "100/3", api.OK}, {splice.Sling{Legs: 4, Height: 5}, "7", "7/3", "7/3", api.OK},
		{ends, "2", "707/500", "283/200", api.OK}, {ends, "1/500", "1/1000", "1/500", api.OK}, {ends, "1/" + nines(600), "0", "1/1000", api.OK}, {ends, "0", "0", "0", api.OK},
		{splice.Sling{Legs: 1, Height: 9}, nines(600), nines(600), nines(600), api.OK}, {splice.Sling{Legs: 1, Height: 9}, "1/" + nines(600), "1/" + nines(600), "1/" + nines(600), api.OK},
		{splice.Sling{Legs: 3, Height: 9}, nines(600), api.Rat(strings.Repeat("3", 600)), api.Rat(strings.Repeat("3", 600)), api.OK},
		{splice.Sling{Legs: 2, Height: 9}, ten(599), "5" + ten(598)[1:], "5" + ten(598)[1:], api.OK}, {splice.Sling{Legs: 2, Height: 9}, "1/" + nines(600), "", "", api.ErrLarge},
		{splice.Sling{Legs: 1, Height: 4, Spread: 3}, ten(599), "125" + ten(597)[1:], "125" + ten(597)[1:], api.OK}, {splice.Sling{Legs: 1, Height: 4, Spread: 3}, "8" + ten(599)[1:], "", "", api.ErrLarge},
		{ends, ten(599), "", "", api.ErrLarge},
	} {
		leg, e := splice.Leg(example.s, example.load)
		sameResult(t, leg, e, api.Span{Low: example.low, High: example.high}, example.e, example)
	}
}

// manyLoads returns loads of all sizes, and some for which the ends of a root have as many digits as is permitted.
func manyLoads() []*big.Rat {
	source := seeded()
	list := []*big.Rat{ratio(0, 1), ratio(1, 1), ratio(80, 1), ratio(1, 1000), value(nines(600)), value("1/" + nines(600)), value(nines(599) + "/" + nines(600))}
	for _, most := range []int{1, 3, 6, 20, 150, 299, 301, 600} {
		list = append(list, randomRat(source, most), randomRat(source, most))
	}
	for range 40 {
		for _, digits := range []int{596, 597, 598, 599} {
			load := new(big.Int).Rand(source, value(ten(digits)).Num())
			list = append(list, new(big.Rat).SetInt(load))
		}
	}
	return list
}

func TestLegOfMany(t *testing.T) {
	found := map[api.Errno]int{}
	for i, s := range manySlings() {
		for k, load := range manyLoads() {
			if (i+k)%31 != 0 {
				continue
			}
			wanted, code := limitedRoot(squareOfLegIn(s, load))
			leg, e := splice.Leg(s, rat(load))
			sameResult(t, leg, e, wanted, code, s, load)
			found[e]++
		}
	}
	same(t, found[api.OK] > 500 && found[api.ErrLarge] > 500, true, found)
}

func TestSafe(t *testing.T) {
	s := splice.Sling{Legs: 2, Height: 4, Spread: 3}
	for _, example := range []struct {
		s           splice.Sling
		load, limit api.Rat
		e           api.Errno
	}{
		{s, "80", "50", api.OK}, {s, "80", "49", api.ErrLoad}, {s, "80", nines(600), api.OK}, {s, "0", "0", api.OK}, {s, "80", "0", api.ErrLoad}, {s, "1/" + nines(600), "0", api.ErrLoad},
		{s, "80", nines(599) + "/" + ten(599), api.ErrLoad}, {s, nines(600), nines(600), api.OK}, {splice.Sling{Legs: 1, Height: 4, Spread: 3}, nines(600), nines(600), api.ErrLoad},
		{splice.Sling{Legs: 4, Height: 4, Spread: 3}, "80", "100/3", api.OK}, {splice.Sling{Legs: 3, Height: 4, Spread: 3}, "80", "100/3", api.OK}, {splice.Sling{Legs: 4, Height: 4, Spread: 3}, "80", "99/3", api.ErrForm},
		{splice.Sling{Legs: 4, Height: 4, Spread: 3}, "80", "33", api.ErrLoad}, {splice.Sling{Legs: 4, Height: 4, Spread: 3}, "80", "333333/10000", api.ErrLoad}, {splice.Sling{Legs: 1, Height: 1}, nines(600), nines(600), api.OK},
		{splice.Sling{Legs: 2, Height: 1, Spread: 1}, "2", "707/500", api.ErrLoad}, {splice.Sling{Legs: 2, Height: 1, Spread: 1}, "2", "283/200", api.OK},
		{splice.Sling{Legs: 2, Height: 1, Spread: 1}, "2", "14142135623/10000000000", api.ErrLoad}, {splice.Sling{Legs: 2, Height: 1, Spread: 1}, "2", "1767766953/1250000000", api.OK},
	} {
		same(t, splice.Safe(example.s, example.load, example.limit), example.e, example)
	}
}

// manyLimits returns limits about the load of a leg, the load itself if it is a number.
func manyLimits(s splice.Sling, load *big.Rat) []*big.Rat {
	low, high := rootIn(squareOfLegIn(s, load))
	return []*big.Rat{low, high, times(low, ratio(2, 1)), times(low, ratio(99, 100)), ratio(0, 1), ratio(1, 1), plus(high, ratio(1, 7))}
}

func TestSafetyOfMany(t *testing.T) {
	found := map[api.Errno]int{}
	for i, s := range manySlings() {
		for k, load := range manyLoads() {
			if (i+k)%211 != 0 {
				continue
			}
			for _, limit := range manyLimits(s, load) {
				text, e := limited(limit)
				if e != api.OK {
					continue
				}
				wanted := api.OK
				if squareOfLegIn(s, load).Cmp(times(limit, limit)) > 0 {
					wanted = api.ErrLoad
				}
				same(t, splice.Safe(s, rat(load), text), wanted, s, load, limit)
				found[wanted]++
				widest, code := widestIn(s, load, limit)
				got, e := splice.Widest(s, rat(load), text)
				sameResult(t, got, e, widest, code, s, load, limit)
			}
		}
	}
	same(t, found[api.OK] > 500 && found[api.ErrLoad] > 500, true, found)
}

func TestWidest(t *testing.T) {
	for _, example := range []struct {
		s           splice.Sling
		load, limit api.Rat
		wanted      int
		e           api.Errno
	}{
		{splice.Sling{Legs: 2, Height: 4, Spread: 3}, "80", "50", 3, api.OK}, {splice.Sling{Legs: 2, Height: 4, Spread: 100000}, "80", "50", 3, api.OK}, {splice.Sling{Legs: 2, Height: 4}, "80", "64", 4, api.OK},
		{splice.Sling{Legs: 2, Height: 4}, "80", "499/10", 2, api.OK}, {splice.Sling{Legs: 2, Height: 4}, "80", "40", 0, api.OK}, {splice.Sling{Legs: 2, Height: 4}, "80", "39", 0, api.ErrLoad},
		{splice.Sling{Legs: 2, Height: 4}, "80", "41", 0, api.OK}, {splice.Sling{Legs: 2, Height: 4}, "0", "0", 100000, api.OK}, {splice.Sling{Legs: 2, Height: 4}, "80", "0", 0, api.ErrLoad},
		{splice.Sling{Legs: 4, Height: 4}, "80", "100/3", 3, api.OK}, {splice.Sling{Legs: 3, Height: 4}, "80", "100/3", 3, api.OK}, {splice.Sling{Legs: 1, Height: 4}, "80", "100", 3, api.OK},
		{splice.Sling{Legs: 1, Height: 75000}, "75000", "125000", 100000, api.OK}, {splice.Sling{Legs: 1, Height: 75000}, "75000", "124999", 99998, api.OK}, {splice.Sling{Legs: 1, Height: 75000}, "75000", nines(600), 100000, api.OK},
		{splice.Sling{Legs: 1, Height: 1}, "1", "100000", 99999, api.OK}, {splice.Sling{Legs: 1, Height: 1}, "1", "100001", 100000, api.OK},
	} {
		widest, e := splice.Widest(example.s, example.load, example.limit)
		sameResult(t, widest, e, example.wanted, example.e, example)
	}
}

func TestErrorsOfSlings(t *testing.T) {
	good := func() lift { return lift{splice.Sling{Legs: 2, Height: 4, Spread: 3}, "80", "50"} }
	checkFaults(t, good, faultsOfLoads(), func(x lift) api.Errno {
		leg, e := splice.Leg(x.s, x.load)
		same(t, leg != api.Span{}, e == api.OK)
		return e
	})
	tooMuch := fault[lift]{func(x *lift) { x.load = "200" }, api.ErrLoad}
	checkFaults(t, good, append(faultsOfLifts(), tooMuch), func(x lift) api.Errno {
		return splice.Safe(x.s, x.load, x.limit)
	})
	checkFaults(t, good, append(faultsOfLifts(), tooMuch), func(x lift) api.Errno {
		widest, e := splice.Widest(x.s, x.load, x.limit)
		same(t, widest == 3, e == api.OK)
		return e
	})
}
