package rope

import (
	"slices"

	"becket/api"
	"becket/check"
	"becket/exact"
)

// form is a sum: multiples of the twists of free parts, and, as its last element, a number.
type form []exact.Fraction

func (a form) number() exact.Fraction {
	return a[len(a)-1]
}

func (a form) plus(b form) form {
	sum := make(form, len(a))
	for i := range a {
		sum[i] = a[i].Plus(b[i])
	}
	return sum
}

func (a form) times(factor exact.Fraction) form {
	product := make(form, len(a))
	for i := range a {
		product[i] = a[i].Times(factor)
	}
	return product
}

// Turns returns the turns of a part for a metre of rope.
func Turns(r Rope, part int) (api.Rat, api.Errno) {
	if e := check.First(CheckRope(r), checkNumber(r, part)); e != api.OK {
		return "", e
	}
	var turns exact.Fraction
	for on := range way(r.Parts, part) {
		turns = turns.Plus(ownTurns(r.Parts[on]))
	}
	return exact.Write(turns)
}

// Moment returns the turning moment of a part.
func Moment(r Rope, part int) (api.Rat, api.Errno) {
	if e := check.First(CheckRope(r), checkNumber(r, part)); e != api.OK {
		return "", e
	}
	return exact.Write(momentsOf(r.Parts, nil)[part].number())
}

// Unbalanced returns the parts whose moment is not 0.
func Unbalanced(r Rope) ([]int, api.Errno) {
	if e := CheckRope(r); e != api.OK {
		return nil, e
	}
	var unbalanced []int
	for part, moment := range momentsOf(r.Parts, nil) {
		if !moment.number().IsZero() {
			unbalanced = append(unbalanced, part)
		}
	}
	return unbalanced, api.OK
}

// Set returns a rope with other twists of some of its parts.
func Set(r Rope, parts []int, twists []api.Rat) (Rope, api.Errno) {
	if e := check.First(CheckRope(r), checkList(r, parts), checkNumbers(twists, len(parts))); e != api.OK {
		return Rope{}, e
	}
	r.Parts = slices.Clone(r.Parts)
	for i, part := range parts {
		r.Parts[part].Twist = twists[i]
	}
	return r, api.OK
}

// Mirror returns the rope with the other hands and twists.
func Mirror(r Rope) (Rope, api.Errno) {
	if e := CheckRope(r); e != api.OK {
		return Rope{}, e
	}
	r.Parts = slices.Clone(r.Parts)
	for i, p := range r.Parts {
		r.Parts[i].Hand = -p.Hand
		r.Parts[i].Twist, _ = exact.Write(exact.Value(p.Twist).Negated())
	}
	return r, api.OK
}

// layTurns returns the turns that a part makes around the axis of its parent; they are 0 for a core, whose Lay is 0.
func layTurns(p Part) exact.Fraction {
	return exact.Ratio(1000*p.Hand, p.Lay)
}

// ownTurns returns the turns that a part adds to those of its parent.
func ownTurns(p Part) exact.Fraction {
	return layTurns(p).Plus(exact.Value(p.Twist))
}

// momentsOf returns the moment of each part, with multiples of the twists of some free parts. All of them come from one
// descent: the moment of a parent is the sum of those of its parts, times their Counts.
func momentsOf(parts []Part, free []int) []form {
	moments := make([]form, len(parts))
	var descend func(part int, turns form)
	descend = func(part int, turns form) {
		p := parts[part]
		turns = turns.plus(turnsWith(p, slices.Index(free, part), len(free)))
		moments[part] = turns.times(exact.Value(p.Stiff).Times(exact.Ratio(p.Yarns, 1))) // 0 for a parent
		for child, c := range parts {
			if c.Parent == part {
				descend(child, turns)
				moments[part] = moments[part].plus(moments[child].times(exact.Ratio(c.Count, 1)))
			}
		}
	}
	descend(0, make(form, len(free)+1))
	return moments
}

// turnsWith returns the turns that a part adds, where its twist is a number, or, if it has a place among free parts, a
// multiple.
func turnsWith(p Part, place, free int) form {
	turns := make(form, free+1)
	if place < 0 {
		turns[free] = ownTurns(p)
	} else {
		turns[free], turns[place] = layTurns(p), exact.Ratio(1, 1)
	}
	return turns
}
