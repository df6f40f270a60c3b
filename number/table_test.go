package number_test

import (
	"math"
	"math/big"
	"slices"
	"testing"

	"becket/api"
	"becket/number"
)

// The tests of P1.4.

// stairs returns a table with so many breakpoints, 0 at 0, 1 at 1 and so on.
func stairs(count int) []api.Point {
	table := make([]api.Point, count)
	for i := range table {
		text, _ := number.Of(i, 1)
		table[i] = api.Point{X: text, Y: text}
	}
	return table
}

// badTables returns a table for each error, and for each of its places.
func badTables() []struct {
	table []api.Point
	e     api.Errno
} {
	last := stairs(64)
	last[63].X = "62"
	return []struct {
		table []api.Point
		e     api.Errno
	}{
		{nil, api.ErrEmpty}, {[]api.Point{}, api.ErrEmpty}, {make([]api.Point, 65), api.ErrMany}, {stairs(65), api.ErrMany},
		{[]api.Point{{X: "", Y: nines(601)}}, api.ErrForm}, {[]api.Point{{X: nines(601), Y: ""}}, api.ErrLarge},
		{[]api.Point{{X: "1", Y: ""}}, api.ErrForm}, {[]api.Point{{X: "1", Y: nines(601)}}, api.ErrLarge},
		{[]api.Point{{X: "1", Y: "1"}, {X: "1", Y: "2"}}, api.ErrOrder}, {[]api.Point{{X: "1", Y: "1"}, {X: "1/2", Y: "2"}}, api.ErrOrder},
		{[]api.Point{{X: "-1", Y: "1"}, {X: "-2", Y: "2"}}, api.ErrOrder},
		{[]api.Point{{X: "1", Y: "1"}, {X: "0", Y: "2/4"}}, api.ErrForm}, {[]api.Point{{X: "1", Y: "1"}, {X: "0", Y: nines(601)}}, api.ErrLarge},
		{[]api.Point{{X: "1", Y: "1"}, {X: "0", Y: "1"}, {X: "x", Y: "1"}}, api.ErrOrder},
		{[]api.Point{{X: "1", Y: "1"}, {X: "2", Y: "x"}, {X: "0", Y: "1"}}, api.ErrForm},
		{[]api.Point{{X: "1", Y: "1"}, {X: "3", Y: "1"}, {X: "2", Y: "1"}}, api.ErrOrder}, {last, api.ErrOrder},
	}
}

func TestCheckTable(t *testing.T) {
	for _, table := range [][]api.Point{
		stairs(1), stairs(64), {{X: "-5", Y: "3"}, {X: "-1/2", Y: "-3"}, {X: "-1/3", Y: "3"}, {X: nines(600), Y: "0"}}, {{X: "10", Y: "1"}, {X: "11", Y: "1"}},
		{{X: "9", Y: "1"}, {X: "10", Y: "1"}},
	} {
		same(t, number.CheckTable(table), api.OK, len(table))
	}
	for i, bad := range badTables() {
		same(t, number.CheckTable(bad.table), bad.e, i)
	}
}

func TestStep(t *testing.T) {
	table := []api.Point{{X: "0", Y: "10"}, {X: "5", Y: "20"}, {X: "11/2", Y: "-1/3"}, {X: "12", Y: "20"}}
	for _, row := range []struct {
		x, wanted api.Rat
		e         api.Errno
	}{
		{"0", "10", api.OK}, {"1/" + nines(600), "10", api.OK}, {"9/2", "10", api.OK}, {"5", "20", api.OK}, {"21/4", "20", api.OK}, {"11/2", "-1/3", api.OK},
		{"6", "-1/3", api.OK}, {"23/2", "-1/3", api.OK}, {"12", "20", api.OK}, {"13", "20", api.OK}, {nines(600), "20", api.OK},
		{"-1", "", api.ErrRange}, {"-1/" + nines(600), "", api.ErrRange}, {"", "", api.ErrForm}, {"-2/4", "", api.ErrForm}, {"-" + nines(601), "", api.ErrLarge},
	} {
		got, e := number.Step(table, row.x)
		same(t, e, row.e, shortened(row.x))
		same(t, got, row.wanted, shortened(row.x))
	}
	for i := range 64 {
		x, _ := number.Of(2*i+1, 2)
		wanted, _ := number.Of(i, 1)
		got, e := number.Step(stairs(64), x)
		same(t, e, api.OK, x)
		same(t, got, wanted, x)
	}
	for i, bad := range badTables() {
		for _, x := range []api.Rat{"0", "-5", "x", nines(601)} {
			got, e := number.Step(bad.table, x)
			same(t, e, bad.e, i, shortened(x))
			same(t, got, api.Rat(""), i)
		}
	}
	kept := slices.Clone(table)
	number.Step(table, "7")
	same(t, table, kept, "the argument")
}

// better tells whether a fraction is a better answer than another one.
func better(x, a, b *big.Rat) bool {
	gapOfA, gapOfB := new(big.Rat).Sub(x, a), new(big.Rat).Sub(x, b)
	if order := gapOfA.Abs(gapOfA).Cmp(gapOfB.Abs(gapOfB)); order != 0 {
		return order < 0
	}
	if order := a.Denom().Cmp(b.Denom()); order != 0 {
		return order < 0
	}
	return a.Cmp(b) < 0
}

// wantedNearest tries all denominators.
func wantedNearest(x *big.Rat, most int) *big.Rat {
	var best *big.Rat
	for bottom := int64(1); bottom <= int64(most); bottom++ {
		top := new(big.Int).Mul(x.Num(), big.NewInt(bottom))
		top.Div(top, x.Denom())
		for range 2 {
			if a := new(big.Rat).SetFrac(top, big.NewInt(bottom)); best == nil || better(x, a, best) {
				best = a
			}
			top = new(big.Int).Add(top, big.NewInt(1))
		}
	}
	return best
}

func TestNearest(t *testing.T) {
	for _, row := range []struct {
		x      api.Rat
		most   int
		wanted api.Rat
		e      api.Errno
	}{
		{"355/113", 10, "22/7", api.OK}, {"355/113", 113, "355/113", api.OK}, {"355/113", 112, "333/106", api.OK}, {"355/113", 1, "3", api.OK},
		{"5/12", 3, "1/2", api.OK}, {"-5/12", 3, "-1/2", api.OK}, {"1/2", 1, "0", api.OK}, {"-1/2", 1, "-1", api.OK}, {"3/2", 1, "1", api.OK},
		{"-7/3", 2, "-5/2", api.OK}, {"0", 1, "0", api.OK}, {"-7", 5, "-7", api.OK}, {"1/3", 999999999, "1/3", api.OK},
		{"1/1000000000", 999999999, "1/999999999", api.OK}, {"1/2000000000", 999999999, "0", api.OK}, {"1/1999999998", 999999999, "0", api.OK},
		{"1/1999999997", 999999999, "1/999999999", api.OK}, {"999999998/1999999997", 999999999, "499999999/999999999", api.OK},
		{nines(600) + "/2", 1, api.Rat("4" + digits("9", 599)), api.OK}, {"-" + nines(600) + "/2", 1, api.Rat("-5" + digits("0", 599)), api.OK},
		{nines(600), 7, nines(600), api.OK}, {"1/" + nines(600), 999999999, "0", api.OK}, {"-1/" + nines(600), 999999999, "0", api.OK},
		{"1/3", 0, "", api.ErrRange}, {"1/3", -1, "", api.ErrRange}, {"1/3", 1000000000, "", api.ErrRange}, {"1/3", math.MaxInt, "", api.ErrRange},
		{"1/3", math.MinInt, "", api.ErrRange}, {"x", 0, "", api.ErrForm}, {"2/4", 5, "", api.ErrForm}, {nines(601), -1, "", api.ErrLarge},
	} {
		got, e := number.Nearest(row.x, row.most)
		same(t, e, row.e, shortened(row.x), row.most)
		same(t, got, row.wanted, shortened(row.x), row.most)
	}
}

func TestNearestOfMany(t *testing.T) {
	source := seeded()
	list := mixedRats(source)
	for range 150 {
		list = append(list, randomRat(source, 3))
	}
	for bottom := int64(1); bottom <= 40; bottom++ { // many of these are equally near to two fractions
		for top := -bottom; top <= bottom; top += 1 + bottom/12 {
			list = append(list, big.NewRat(top, bottom))
		}
	}
	for _, x := range list {
		for _, most := range []int{1, 2, 3, 4, 5, 6, 7, 12, 31} {
			got, e := number.Nearest(rat(x), most)
			same(t, e, api.OK, shortened(rat(x)), most)
			same(t, got, rat(wantedNearest(x, most)), shortened(rat(x)), most)
		}
	}
}

// neighbour returns the nearest fraction from x on, upwards or downwards (sign 1 or -1), with denominators up to a
// limit: it goes down in the tree of Stern and Brocot, doubling its steps.
func neighbour(x *big.Rat, most int64, sign int) *big.Rat {
	floor := new(big.Int).Div(x.Num(), x.Denom())
	base := new(big.Rat).SetInt(floor)
	part := new(big.Rat).Sub(x, base)
	var lowTop, lowBottom, highTop, highBottom int64 = 0, 1, 1, 1
	if part.Sign() == 0 {
		return base
	}
	for lowBottom+highBottom <= most {
		for step := int64(1); step > 0; { // towards the upper end
			top, bottom := lowTop+step*highTop, lowBottom+step*highBottom
			if bottom <= most && big.NewRat(top, bottom).Cmp(part) <= 0 {
				lowTop, lowBottom, step = top, bottom, 2*step
			} else {
				step /= 2
			}
		}
		if big.NewRat(lowTop, lowBottom).Cmp(part) == 0 {
			return base.Add(base, part)
		}
		for step := int64(1); step > 0; {
			top, bottom := highTop+step*lowTop, highBottom+step*lowBottom
			if bottom <= most && big.NewRat(top, bottom).Cmp(part) >= 0 {
				highTop, highBottom, step = top, bottom, 2*step
			} else {
				step /= 2
			}
		}
		if big.NewRat(highTop, highBottom).Cmp(part) == 0 {
			return base.Add(base, part)
		}
	}
	if sign < 0 {
		return base.Add(base, big.NewRat(lowTop, lowBottom))
	}
	return base.Add(base, big.NewRat(highTop, highBottom))
}

func TestNearestWithLargeDenominators(t *testing.T) {
	source := seeded()
	list := mixedRats(source)
	for range 60 {
		list = append(list, randomRat(source, 12))
	}
	for _, x := range list {
		for _, most := range []int{1, 10, 113, 99999, 123456789, 999999998, 999999999} {
			below, above := neighbour(x, int64(most), -1), neighbour(x, int64(most), 1)
			wanted := below
			if better(x, above, below) {
				wanted = above
			}
			got, e := number.Nearest(rat(x), most)
			same(t, e, api.OK, shortened(rat(x)), most)
			same(t, got, rat(wanted), shortened(rat(x)), most)
		}
	}
}
