package splice_test

import (
	"math/big"

	"becket/api"
	"becket/splice"
)

// The model looks at each pair of strands, and computes with math/big, as the chapter's definitions tell it.

// ruleIn returns the rule that refuses a tuck, or 0.
func ruleIn(r splice.Rule, tucks, gaps []int, t splice.Tuck) int {
	has := tucks[t.Strand]
	if has >= r.Full+r.Taper {
		return 1
	}
	for _, other := range tucks {
		if other < has {
			return 2
		}
	}
	if t.Over != r.Over || t.Under > r.Under || t.Under < 1 {
		return 3
	}
	if has < r.Full && t.Under < r.Under {
		return 3
	}
	for other := range tucks {
		if other != t.Strand && tucks[other] == has+1 && gaps[other] == gapIn(r, gaps[t.Strand], t) {
			return 4
		}
	}
	return 0
}

// gapIn returns the gap in which a strand comes out, gap by gap.
func gapIn(r splice.Rule, gap int, t splice.Tuck) int {
	for range t.Over + t.Under {
		gap++
		if gap == r.Strands {
			gap = 0
		}
	}
	return gap
}

// replayIn returns the tucks and the gaps after tucks from the beginning, and what is set aside.
func replayIn(r splice.Rule, l []splice.Tuck) ([]int, []int, []splice.Refusal) {
	tucks, gaps := make([]int, r.Strands), make([]int, r.Strands)
	for strand := range gaps {
		gaps[strand] = strand
	}
	var aside []splice.Refusal
	for i, t := range l {
		if rule := ruleIn(r, tucks, gaps, t); rule != 0 {
			aside = append(aside, splice.Refusal{Number: i + 1, Rule: rule})
			continue
		}
		tucks[t.Strand]++
		gaps[t.Strand] = gapIn(r, gaps[t.Strand], t)
	}
	return tucks, gaps, aside
}

// errorOfStateIn returns the error of a state whose lists have as many numbers as the rule has strands.
func errorOfStateIn(r splice.Rule, s splice.State) api.Errno {
	for strand := range r.Strands {
		if s.Tucks[strand] < 0 || s.Tucks[strand] > r.Full+r.Taper || s.Gaps[strand] < 0 || s.Gaps[strand] >= r.Strands {
			return api.ErrRange
		}
	}
	for a := range r.Strands {
		for b := range a {
			difference := s.Tucks[a] - s.Tucks[b]
			if difference > 1 || difference < -1 || difference == 0 && s.Gaps[a] == s.Gaps[b] {
				return api.ErrState
			}
		}
	}
	return api.OK
}

// holdIn returns what a strand with so many tucks holds.
func holdIn(r splice.Rule, tucks int) *big.Rat {
	hold, bottom := new(big.Rat), int64(1)
	for i := range tucks {
		if i >= r.Full {
			bottom *= 2
		}
		hold.Add(hold, big.NewRat(1, bottom))
	}
	return hold
}

// lacksIn returns the first strand that lacks a tuck.
func lacksIn(r splice.Rule, tucks []int) (int, api.Errno) {
	for strand, has := range tucks {
		if has < r.Full+r.Taper {
			return strand, api.OK
		}
	}
	return 0, api.ErrNone
}

// stepIn returns the last Y of a table whose X is not above a number, and whether there is one.
func stepIn(table []api.Point, x *big.Rat) (api.Rat, bool) {
	for i := len(table) - 1; i >= 0; i-- {
		if value(table[i].X).Cmp(x) <= 0 {
			return table[i].Y, true
		}
	}
	return "", false
}

// carryingIn returns how many legs of a sling carry.
func carryingIn(s splice.Sling) *big.Rat {
	return map[int]*big.Rat{1: ratio(1, 1), 2: ratio(2, 1), 3: ratio(3, 1), 4: ratio(3, 1)}[s.Legs]
}

// squareOfLegIn returns the square of the load of a leg.
func squareOfLegIn(s splice.Sling, load *big.Rat) *big.Rat {
	share := over(load, carryingIn(s))
	return times(times(share, share), ratio(s.Height*s.Height+s.Spread*s.Spread, s.Height*s.Height))
}

// rootIn returns the root of a number from 0 on of any size, with the integer root of math/big.
func rootIn(a *big.Rat) (low, high *big.Rat) {
	root := new(big.Rat).SetFrac(new(big.Int).Sqrt(a.Num()), new(big.Int).Sqrt(a.Denom()))
	if times(root, root).Cmp(a) == 0 {
		return root, root
	}
	units := new(big.Int).Mul(a.Num(), big.NewInt(1_000_000))
	units.Sqrt(units.Div(units, a.Denom()))
	thousandth := ratio(1, 1000)
	low = times(new(big.Rat).SetInt(units), thousandth)
	return low, plus(low, thousandth)
}

// limitedRoot returns what Leg has to return for the square of a load.
func limitedRoot(square *big.Rat) (api.Span, api.Errno) {
	low, high := rootIn(square)
	lowEnd, errorOfLow := limited(low)
	highEnd, errorOfHigh := limited(high)
	if errorOfLow != api.OK || errorOfHigh != api.OK {
		return api.Span{}, api.ErrLarge
	}
	return api.Span{Low: lowEnd, High: highEnd}, api.OK
}

// widestIn returns the greatest spread of a safe sling: its square is at most that of the height, times what is left of the
// square of (limit times legs by load) without 1.
func widestIn(s splice.Sling, load, limit *big.Rat) (int, api.Errno) {
	if load.Sign() == 0 {
		return 100000, api.OK
	}
	share := over(times(limit, carryingIn(s)), load)
	square := times(new(big.Rat).Sub(times(share, share), ratio(1, 1)), ratio(s.Height*s.Height, 1))
	if square.Sign() < 0 {
		return 0, api.ErrLoad
	}
	spread := new(big.Int).Div(square.Num(), square.Denom())
	if spread.Sqrt(spread); spread.Cmp(big.NewInt(100000)) > 0 {
		return 100000, api.OK
	}
	return int(spread.Int64()), api.OK
}

// meshesIn returns the meshes of the rows of a net without errors.
func meshesIn(n splice.Net) []int {
	meshes := []int{n.First}
	for _, row := range n.Rows {
		meshes = append(meshes, meshes[len(meshes)-1]+row.More-row.Less)
	}
	return meshes
}

// twineIn returns the twine of a net, row by row.
func twineIn(n splice.Net, side, knot *big.Rat) *big.Rat {
	twine := new(big.Rat)
	for i, meshes := range meshesIn(n) {
		mesh := plus(side, side)
		if i > 0 {
			mesh = plus(mesh, knot)
		}
		twine = plus(twine, times(mesh, ratio(meshes, 1)))
	}
	return twine
}

// evenIn returns the meshes of an even net.
func evenIn(first, last, rows int) []int {
	var meshes []int
	for k := range rows + 1 {
		quotient := new(big.Int).Div(big.NewInt(int64(k*(last-first))), big.NewInt(int64(rows)))
		meshes = append(meshes, first+int(quotient.Int64()))
	}
	return meshes
}
