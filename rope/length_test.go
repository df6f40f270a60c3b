package rope_test

import (
	"math/big"
	"testing"

	"becket/api"
	"becket/rope"
)

// The tests of P3.2.

// ends is a span of the model.
type ends struct {
	low, high *big.Rat
}

// piWith returns pi with k decimals as the chapter of numbers defines it.
func piWith(k int) ends {
	scale := new(big.Int).Exp(big.NewInt(10), big.NewInt(int64(k)), nil)
	digits, _ := new(big.Int).SetString("3141592653589793238462643383279"[:1+k], 10)
	next := new(big.Int).Add(digits, big.NewInt(1))
	return ends{new(big.Rat).SetFrac(digits, scale), new(big.Rat).SetFrac(next, scale)}
}

func angleIn(p rope.Part, digits int) ends {
	if p.Hand == 0 {
		return ends{whole(0), whole(0)}
	}
	square := times(ratio(p.Radius, 1000*p.Lay), ratio(p.Radius, 1000*p.Lay))
	end := func(pi *big.Rat) *big.Rat { return times(times(whole(4), times(pi, pi)), square) }
	return ends{end(piWith(digits).low), end(piWith(digits).high)}
}

// rootOf returns the root of a number, rounded down and up to thousandths if it is no number.
func rootOf(a *big.Rat) ends {
	top, bottom := new(big.Int).Sqrt(a.Num()), new(big.Int).Sqrt(a.Denom())
	if root := new(big.Rat).SetFrac(top, bottom); times(root, root).Cmp(a) == 0 {
		return ends{root, root}
	}
	million := times(a, whole(1000000))
	units := new(big.Int).Sqrt(new(big.Int).Quo(million.Num(), million.Denom()))
	low := new(big.Rat).SetFrac(units, big.NewInt(1000))
	return ends{low, plus(low, ratio(1, 1000))}
}

func factorIn(p rope.Part, digits int) ends {
	angle := angleIn(p, digits)
	return ends{rootOf(plus(whole(1), angle.low)).low, rootOf(plus(whole(1), angle.high)).high}
}

func lengthIn(r rope.Rope, part, metres, digits int) ends {
	length := ends{whole(metres), whole(metres)}
	for _, on := range wayUp(r, part) {
		factor := factorIn(r.Parts[on], digits)
		length = ends{times(length.low, factor.low), times(length.high, factor.high)}
	}
	return length
}

// sumIn returns the sum over the leaves of a number of yarns and their length, each times the number of its leaf.
func sumIn(r rope.Rope, metres, digits int, unit func(p rope.Part) *big.Rat) ends {
	sum := ends{whole(0), whole(0)}
	for leaf, p := range r.Parts {
		if isLeaf(r, leaf) {
			length, factor := lengthIn(r, leaf, metres, digits), times(unit(p), whole(countIn(r, 0, leaf)*p.Yarns))
			sum = ends{plus(sum.low, times(length.low, factor)), plus(sum.high, times(length.high, factor))}
		}
	}
	return sum
}

func one(rope.Part) *big.Rat           { return whole(1) }
func gramOfMetre(p rope.Part) *big.Rat { return times(value(p.Tex), ratio(1, 1000)) }

// sameSpan fails the test if a span and its error are not those of a result.
func sameSpan(t *testing.T, got api.Span, e api.Errno, wanted ends, what ...any) {
	t.Helper()
	low, errorOfLow := limited(wanted.low)
	high, errorOfHigh := limited(wanted.high)
	if code := max(errorOfLow, errorOfHigh); code != api.OK {
		same(t, []any{got, e}, []any{api.Span{}, code}, what...)
		return
	}
	same(t, []any{got, e}, []any{api.Span{Low: low, High: high}, api.OK}, what...)
}

func TestLengthsOfTheChapter(t *testing.T) {
	angle, e := rope.Angle(laid(), 1, 1)
	same(t, []any{angle, e}, []any{api.Span{Low: "8649/40000", High: "144/625"}, api.OK})
	factor, e := rope.Factor(laid(), 1, 1)
	same(t, []any{factor, e}, []any{api.Span{Low: "551/500", High: "111/100"}, api.OK})
	length, e := rope.Length(laid(), 1, 100, 1)
	same(t, []any{length, e}, []any{api.Span{Low: "551/5", High: "111"}, api.OK})
	for _, part := range []int{0, 3} { // the rope itself, and a core
		angle, _ := rope.Angle(cored(), part, 30)
		same(t, angle, api.Span{Low: "0", High: "0"})
		factor, _ := rope.Factor(cored(), part, 30)
		same(t, factor, api.Span{Low: "1", High: "1"})
		length, _ := rope.Length(cored(), part, 7, 30)
		same(t, length, api.Span{Low: "7", High: "7"})
	}
}

// The tangent is 3/4 with the lower end of pi with one decimal, so that the root is a number.
func TestRootsThatAreNumbers(t *testing.T) {
	r := laid()
	r.Parts[0].Thick, r.Parts[1].Radius, r.Parts[1].Lay = 10000, 3750, 31
	factor, e := rope.Factor(r, 1, 1)
	same(t, []any{factor, e}, []any{api.Span{Low: "5/4", High: api.Rat(rootOf(plus(whole(1), angleIn(r.Parts[1], 1).high)).high.RatString())}, api.OK})
	same(t, factor.High != "5/4", true)
	r.Parts[1].Radius, r.Parts[1].Lay = 3750, 32 // and here with the upper one, of which all thousandths below are lower
	factor, e = rope.Factor(r, 1, 1)
	same(t, []any{factor.High, e}, []any{api.Rat("5/4"), api.OK})
}

func TestLengthsOfModel(t *testing.T) {
	source := seeded()
	ropes := []rope.Rope{laid(), cored(), chain(6), bundle("1", "2")}
	for range 20 {
		ropes = append(ropes, randomRope(source, 25, 40))
	}
	for i, r := range ropes {
		digits, metres := 1+(i*7)%30, 1+source.Intn(rope.MaxLength)
		for part, p := range r.Parts {
			angle, e := rope.Angle(r, part, digits)
			sameSpan(t, angle, e, angleIn(p, digits), "angle", i, part)
			factor, e := rope.Factor(r, part, digits)
			sameSpan(t, factor, e, factorIn(p, digits), "factor", i, part)
			length, e := rope.Length(r, part, metres, digits)
			sameSpan(t, length, e, lengthIn(r, part, metres, digits), "length", i, part)
		}
		total, e := rope.Total(r, metres, digits)
		sameSpan(t, total, e, sumIn(r, metres, digits, one), "total", i)
		weight, e := rope.Weight(r, metres, digits)
		sameSpan(t, weight, e, sumIn(r, metres, digits, gramOfMetre), "weight", i)
	}
}

func TestAllDigits(t *testing.T) {
	r := cored()
	r.Parts[1].Radius, r.Parts[1].Thick, r.Parts[0].Thick = rope.MaxRadius/2, rope.MaxRadius/2, rope.MaxRadius
	r.Parts[1].Lay, r.Parts[2].Lay = 1, rope.MaxLay
	for digits := 1; digits <= 30; digits++ {
		for part, p := range r.Parts {
			angle, e := rope.Angle(r, part, digits)
			sameSpan(t, angle, e, angleIn(p, digits), digits, part)
			length, e := rope.Length(r, part, rope.MaxLength, digits)
			sameSpan(t, length, e, lengthIn(r, part, rope.MaxLength, digits), digits, part)
		}
		weight, e := rope.Weight(r, rope.MaxLength, digits)
		sameSpan(t, weight, e, sumIn(r, rope.MaxLength, digits, gramOfMetre), digits)
	}
}

// measures returns the functions of metres and digits.
func measures(r rope.Rope, part, metres, digits int) map[string]func() (api.Span, api.Errno) {
	return map[string]func() (api.Span, api.Errno){
		"Angle":  func() (api.Span, api.Errno) { return rope.Angle(r, part, digits) },
		"Factor": func() (api.Span, api.Errno) { return rope.Factor(r, part, digits) },
		"Length": func() (api.Span, api.Errno) { return rope.Length(r, part, metres, digits) },
		"Total":  func() (api.Span, api.Errno) { return rope.Total(r, metres, digits) },
		"Weight": func() (api.Span, api.Errno) { return rope.Weight(r, metres, digits) },
	}
}

func TestRangesOfLengths(t *testing.T) {
	for _, part := range []int{0, 1, 3} { // also of those that need no pi
		for _, digits := range []int{-1, 0, 31, 1000} {
			for name, call := range measures(cored(), part, 5, digits) {
				span, e := call()
				same(t, []any{span, e}, []any{api.Span{}, api.ErrRange}, name, part, digits)
			}
		}
		for _, metres := range []int{-1, 0, 100001} {
			for name, call := range measures(cored(), part, metres, 5) {
				span, e := call()
				wrong := name != "Angle" && name != "Factor"
				same(t, []any{span == api.Span{}, e == api.ErrRange}, []any{wrong, wrong}, name, part, metres)
			}
		}
	}
}

// The sum of the weights of some leaves may have too many digits, while that of all of them has not.
func TestWeightBeyondTheLimit(t *testing.T) {
	for _, order := range [][]int{{0, 1, 2, 3}, {0, 2, 1, 3}, {3, 2, 1, 0}} {
		r := bundle("0", "0", "0", "0")
		for i, place := range order {
			r.Parts[1+i].Tex = pieces()[place]
		}
		weight, e := rope.Weight(r, 4000, 3)
		same(t, []any{weight, e}, []any{api.Span{Low: "8", High: "8"}, api.OK}, order)
		total, e := rope.Total(r, 4000, 3)
		same(t, []any{total, e}, []any{api.Span{Low: "16000", High: "16000"}, api.OK}, order)
	}
	two := bundle("0", "0")
	two.Parts[1].Tex, two.Parts[2].Tex = pieces()[0], pieces()[1]
	weight, e := rope.Weight(two, 4000, 3)
	same(t, []any{weight, e}, []any{api.Span{}, api.ErrLarge})
	for tex, wanted := range map[api.Rat]api.Errno{nines(600): api.OK, ten(599): api.OK, "1/" + nines(600): api.ErrLarge, "1/" + nines(596): api.OK} {
		r := bundle("0")
		r.Parts[1].Tex = tex
		_, e := rope.Weight(r, 1, 3)
		same(t, e, wanted, tex)
	}
	r := bundle("0")
	r.Parts[1].Tex = nines(600)
	_, e = rope.Weight(r, 100000, 3)
	same(t, e, api.ErrLarge)
}
