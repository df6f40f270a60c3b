package rope

import (
	"slices"

	"becket/api"
	"becket/check"
	"becket/exact"
	"becket/number"
)

// Free is a part whose own twist may be chosen, from Low to High.
type Free struct {
	Part int
	Low  api.Rat
	High api.Rat
}

// Reason says that no twists balance a rope: at the least twists (low) the moment is above 0, or at the greatest ones
// (high) below.
type Reason struct {
	End    string
	Moment api.Rat
}

// bound is an end of all free parts, and the sign of a moment there that proves that no twists balance the rope.
type bound struct {
	end   string
	twist func(f Free) api.Rat
	sign  int
}

func bounds() []bound {
	return []bound{{"low", lowOf, 1}, {"high", highOf, -1}}
}

func lowOf(f Free) api.Rat { return f.Low }

func highOf(f Free) api.Rat { return f.High }

// Balance returns twists that balance a rope.
func Balance(r Rope, free []Free) ([]api.Rat, api.Errno) {
	if e := check.First(CheckRope(r), checkFree(r, free)); e != api.OK {
		return nil, e
	}
	moment := momentOfFree(r, free)
	if _, _, found := findReason(moment, free); found {
		return nil, api.ErrInfeasible
	}
	twists := make([]api.Rat, len(free))
	missing := momentAt(moment, free, lowOf).Negated()
	for i, f := range free {
		low := exact.Value(f.Low)
		twist := highestTwist(f, moment[i], missing)
		missing = missing.Minus(twist.Minus(low).Times(moment[i]))
		text, e := exact.Write(twist)
		if e != api.OK {
			return nil, e
		}
		twists[i] = text
	}
	return twists, api.OK
}

// highestTwist returns the highest twist of a free part for which its multiple does not rise by more than is missing.
func highestTwist(f Free, multiple, missing exact.Fraction) exact.Fraction {
	low, high := exact.Value(f.Low), exact.Value(f.High)
	if high.Minus(low).Times(multiple).Compare(missing) <= 0 {
		return high
	}
	return low.Plus(missing.Over(multiple))
}

// Why returns the reason why no twists balance a rope.
func Why(r Rope, free []Free) (Reason, api.Errno) {
	if e := check.First(CheckRope(r), checkFree(r, free)); e != api.OK {
		return Reason{}, e
	}
	at, moment, found := findReason(momentOfFree(r, free), free)
	if !found {
		return Reason{}, api.ErrNone
	}
	text, e := exact.Write(moment)
	if e != api.OK {
		return Reason{}, e
	}
	return Reason{at.end, text}, api.OK
}

// CheckWhy returns OK for a reason that proves that no twists balance a rope.
func CheckWhy(r Rope, free []Free, x Reason) api.Errno {
	if e := check.First(CheckRope(r), checkFree(r, free)); e != api.OK {
		return e
	}
	ends := bounds()
	place := slices.IndexFunc(ends, func(b bound) bool { return b.end == x.End })
	if place < 0 {
		return api.ErrKind
	}
	if e := number.Check(x.Moment); e != api.OK {
		return e
	}
	moment := momentAt(momentOfFree(r, free), free, ends[place].twist)
	proves := moment.Sign() == ends[place].sign && moment.Compare(exact.Value(x.Moment)) == 0
	return check.That(proves, api.ErrProof)
}

// findReason returns the bound that proves that no twists balance a rope, and the moment there, if there is one.
func findReason(moment form, free []Free) (at bound, there exact.Fraction, found bool) {
search:
	for _, at = range bounds() {
		there = momentAt(moment, free, at.twist)
		switch there.Sign() {
		case at.sign:
			found = true
			break search
		case 0: // the twists at this end balance the rope
			break search
		}
	}
	return at, there, found
}

// momentOfFree returns the moment of a rope with multiples of the twists of free parts.
func momentOfFree(r Rope, free []Free) form {
	parts := make([]int, len(free))
	for i, f := range free {
		parts[i] = f.Part
	}
	return momentsOf(r.Parts, parts)[0]
}

// momentAt returns the moment with some twists of the free parts.
func momentAt(moment form, free []Free, twist func(Free) api.Rat) exact.Fraction {
	sum := moment.number()
	for i, f := range free {
		sum = sum.Plus(exact.Value(twist(f)).Times(moment[i]))
	}
	return sum
}
