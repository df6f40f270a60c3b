package splice

import (
	"slices"

	"becket/api"
	"becket/check"
	"becket/exact"
	"becket/number"
)

// Lacks returns the first strand that lacks a tuck.
func Lacks(r Rule, s State) (int, api.Errno) {
	if e := CheckState(r, s); e != api.OK {
		return 0, e
	}
search:
	for strand := 0; ; strand++ {
		switch {
		case strand == r.Strands:
			break search
		case s.Tucks[strand] < tucksIn(r):
			return strand, api.OK
		}
	}
	return 0, api.ErrNone
}

// Hold returns what a strand holds.
func Hold(r Rule, s State, strand int) (api.Rat, api.Errno) {
	if e := check.First(CheckState(r, s), checkStrand(r, strand)); e != api.OK {
		return "", e
	}
	return heldBy(r, s.Tucks[strand])
}

// Efficiency returns the part of the strength that a splice keeps.
func Efficiency(r Rule, s State, t []api.Point) (api.Rat, api.Errno) {
	if e := check.First(CheckState(r, s), number.CheckTable(t)); e != api.OK {
		return "", e
	}
	least, _ := heldBy(r, slices.Min(s.Tucks)) // a strand with fewer tucks holds less
	efficiency, e := number.Step(t, least)
	if e := check.First(e, check.Part(efficiency)); e != api.OK {
		return "", e
	}
	return efficiency, api.OK
}

// Strength returns a strength with reductions.
func Strength(base api.Rat, l []api.Rat) (api.Rat, api.Errno) {
	e := check.First(
		check.FromZero(base),
		check.That(len(l) <= api.MaxList, api.ErrMany),
		check.Each(l, check.Part),
	)
	if e != api.OK {
		return "", e
	}
	left := exact.Value(base) // it has no limit of digits on the way: reductions may cancel
	for _, reduction := range l {
		left = left.Times(exact.Value(reduction))
	}
	return exact.Write(left)
}

// heldBy returns what some tucks of a strand hold together.
func heldBy(r Rule, tucks int) (api.Rat, api.Errno) {
	full := min(tucks, r.Full)
	held, tuck := exact.Ratio(full, 1), exact.Ratio(1, 1)
	for range tucks - full {
		tuck = tuck.Over(exact.Ratio(2, 1))
		held = held.Plus(tuck)
	}
	return exact.Write(held)
}
