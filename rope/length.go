package rope

import (
	"iter"

	"becket/api"
	"becket/check"
	"becket/exact"
	"becket/number"
)

// Angle returns the square of the tangent of the angle of a part with the axis of its parent.
func Angle(r Rope, part, digits int) (api.Span, api.Errno) {
	if e := check.First(CheckRope(r), checkNumber(r, part), checkDigits(digits)); e != api.OK {
		return api.Span{}, e
	}
	return angleOf(r.Parts[part], digits), api.OK
}

// Factor returns the length of a part for one unit of length of its parent.
func Factor(r Rope, part, digits int) (api.Span, api.Errno) {
	if e := check.First(CheckRope(r), checkNumber(r, part), checkDigits(digits)); e != api.OK {
		return api.Span{}, e
	}
	return factorOf(r.Parts[part], digits), api.OK
}

// Length returns the length of one such part for so many metres of rope.
func Length(r Rope, part, metres, digits int) (api.Span, api.Errno) {
	if e := check.First(CheckRope(r), checkNumber(r, part), checkMetres(metres), checkDigits(digits)); e != api.OK {
		return api.Span{}, e
	}
	return lengthOf(r.Parts, part, metres, digits), api.OK
}

// Total returns the length of all yarns of so many metres of rope.
func Total(r Rope, metres, digits int) (api.Span, api.Errno) {
	return sumOfYarns(r, metres, digits, func(Part) exact.Fraction { return exact.Ratio(1, 1) })
}

// Weight returns the weight in grams of so many metres of rope.
func Weight(r Rope, metres, digits int) (api.Span, api.Errno) {
	return sumOfYarns(r, metres, digits, func(p Part) exact.Fraction { return exact.Value(p.Tex).Over(exact.Ratio(1000, 1)) })
}

// angleOf, like factorOf and lengthOf, has no error: a few dozen digits are enough for all that limits permit.
func angleOf(p Part, digits int) api.Span {
	pi, _ := number.Pi(digits)
	ratio := exact.Ratio(2*p.Radius, 1000*p.Lay) // 0 for a core, whose Lay is 0
	square, _ := exact.Write(ratio.Times(ratio))
	return productOf(productOf(pi, pi), pointAt(square))
}

func factorOf(p Part, digits int) api.Span {
	angle := angleOf(p, digits)
	return api.Span{Low: rootOfOneAnd(angle.Low).Low, High: rootOfOneAnd(angle.High).High}
}

func rootOfOneAnd(angle api.Rat) api.Span {
	sum, _ := number.Add("1", angle)
	root, _ := number.Root(sum)
	return root
}

func lengthOf(parts []Part, part, metres, digits int) api.Span {
	ofRope, _ := number.Of(metres, 1)
	return join(pointAt(ofRope), factorsTo(parts, part, digits), productOf)
}

// factorsTo goes through the factors on the way to a part.
func factorsTo(parts []Part, part, digits int) iter.Seq[api.Span] {
	return func(yield func(api.Span) bool) {
		for on := range way(parts, part) {
			if !yield(factorOf(parts[on], digits)) {
				return
			}
		}
	}
}

func productOf(a, b api.Span) api.Span {
	product, _ := number.Times(a, b)
	return product
}

// pointAt returns the span of one number alone.
func pointAt(a api.Rat) api.Span {
	return api.Span{Low: a, High: a}
}

// sumOfYarns returns the sum over all yarns of their lengths, each one times what a metre of yarn of its leaf counts.
// Its ends have no limit of digits on the way: a sum may fit into it though a part of it does not.
func sumOfYarns(r Rope, metres, digits int, unit func(Part) exact.Fraction) (api.Span, api.Errno) {
	if e := check.First(CheckRope(r), checkMetres(metres), checkDigits(digits)); e != api.OK {
		return api.Span{}, e
	}
	var low, high exact.Fraction
	leaves := leavesOf(r.Parts, 0)
	for leaf, p := range r.Parts {
		length := lengthOf(r.Parts, leaf, metres, digits)
		factor := unit(p).Times(exact.Ratio(leaves[leaf]*p.Yarns, 1)) // 0 for a part that is no leaf
		low = low.Plus(exact.Value(length.Low).Times(factor))
		high = high.Plus(exact.Value(length.High).Times(factor))
	}
	lowEnd, errorOfLow := exact.Write(low)
	highEnd, errorOfHigh := exact.Write(high)
	if e := check.First(errorOfLow, errorOfHigh); e != api.OK {
		return api.Span{}, e
	}
	return api.Span{Low: lowEnd, High: highEnd}, api.OK
}
