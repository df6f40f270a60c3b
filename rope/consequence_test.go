package rope_test

import (
	"math"
	"math/big"
	"math/rand"
	"slices"
	"strings"
	"testing"

	"becket/api"
	"becket/rope"
)

// The tests of P3.6, and of P1 for the package.

// isWithin tells whether a span is a part of another one.
func isWithin(inner, outer api.Span) bool {
	return value(inner.Low).Cmp(value(outer.Low)) >= 0 && value(inner.High).Cmp(value(outer.High)) <= 0
}

func TestMoreDigitsAreNotWider(t *testing.T) {
	r := cored()
	for part := range r.Parts {
		outer, _ := rope.Angle(r, part, 1)
		for digits := 2; digits <= 30; digits++ {
			inner, _ := rope.Angle(r, part, digits)
			same(t, isWithin(inner, outer), true, part, digits)
			outer = inner
		}
	}
}

func TestLengthsGrow(t *testing.T) {
	source := seeded()
	for range 25 {
		r, digits := randomRope(source, 20, 3), 1+source.Intn(30)
		metres := 1 + source.Intn(rope.MaxLength-1)
		for part, p := range r.Parts {
			length, _ := rope.Length(r, part, metres, digits)
			longer, _ := rope.Length(r, part, metres+1, digits)
			same(t, value(longer.Low).Cmp(value(length.Low)) > 0 && value(longer.High).Cmp(value(length.High)) > 0, true, part)
			if part == 0 {
				continue
			}
			parent, _ := rope.Length(r, p.Parent, metres, digits)
			same(t, value(length.Low).Cmp(value(parent.Low)) >= 0 && value(length.High).Cmp(value(parent.High)) >= 0, true, part)
			same(t, length == parent || p.Hand != 0, true, "a core is just as long", part)
		}
	}
}

// The true length, with the digits of pi that floats have, is in each span.
func TestLengthsEncloseWhatIsLaid(t *testing.T) {
	source := seeded()
	for range 25 {
		r := randomRope(source, 20, 3)
		for part := range r.Parts {
			laid := 100.0
			for _, on := range wayUp(r, part) {
				if p := r.Parts[on]; p.Hand != 0 {
					laid *= math.Hypot(1, 2*math.Pi*float64(p.Radius)/(1000*float64(p.Lay)))
				}
			}
			span, _ := rope.Length(r, part, 100, 1+source.Intn(30))
			low, _ := value(span.Low).Float64()
			high, _ := value(span.High).Float64()
			same(t, low <= laid*(1+1e-9) && laid <= high*(1+1e-9), true, part, span, laid)
		}
	}
}

func TestMomentsAddUp(t *testing.T) {
	source := seeded()
	for range 40 {
		r := randomRope(source, 30, 2)
		mirror, _ := rope.Mirror(r)
		for part := range r.Parts {
			moment, _ := rope.Moment(r, part)
			opposite, _ := rope.Moment(mirror, part)
			same(t, plus(value(moment), value(opposite)).Sign(), 0, part)
			if isLeaf(r, part) {
				continue
			}
			sum := new(big.Rat)
			for child, p := range r.Parts {
				if p.Parent == part {
					own, _ := rope.Moment(r, child)
					sum = plus(sum, times(whole(p.Count), value(own)))
				}
			}
			same(t, moment, rat(sum), part)
		}
	}
}

func TestBalancedOrNot(t *testing.T) {
	source := seeded()
	for i := range 300 {
		r := randomRope(source, 15, 2)
		free := randomFree(source, r, []int{10, 10000}[i%2])
		twists, e := rope.Balance(r, free)
		reason, errorOfReason := rope.Why(r, free)
		same(t, []bool{e == api.OK, errorOfReason == api.OK}, []bool{e == api.OK, e == api.ErrInfeasible}, "never both", i)
		if e != api.OK {
			same(t, rope.CheckWhy(r, free, reason), api.OK, i)
			continue
		}
		set, e := rope.Set(r, partsOf(free), twists)
		same(t, e, api.OK, i)
		moment, e := rope.Moment(set, 0)
		same(t, []any{moment, e}, []any{api.Rat("0"), api.OK}, i)
		unbalanced, _ := rope.Unbalanced(set)
		same(t, slices.Contains(unbalanced, 0), false, i)
		for _, end := range []string{"low", "high"} {
			same(t, rope.CheckWhy(r, free, rope.Reason{End: end, Moment: "1"}), api.ErrProof, i)
		}
	}
}

func TestFixedRopesAreBalanced(t *testing.T) {
	source := seeded()
	fixed := 0
	for range 300 {
		r := randomRope(source, 12, 2)
		parts := someParts(source, r, 1+source.Intn(4))
		twists, e := rope.Fix(r, parts, parts)
		if e != api.OK {
			continue
		}
		fixed++
		set, _ := rope.Set(r, parts, twists)
		for _, part := range parts {
			moment, _ := rope.Moment(set, part)
			same(t, moment, api.Rat("0"), part)
		}
		_, e = rope.Refute(r, parts, parts)
		same(t, e, api.ErrNone, "a solution and a refutation")
	}
	same(t, fixed > 50, true, fixed)
}

func TestTextsAreReadAsPrinted(t *testing.T) {
	source := seeded()
	printed := 0
	for range 200 {
		r := randomRope(source, 64, 12)
		text, e := rope.Print(r)
		same(t, e == api.OK || e == api.ErrLong, true, e)
		if e == api.OK {
			printed++
			back, line, e := rope.Parse(text)
			same(t, []any{back, line, e}, []any{r, 0, api.OK})
		}
	}
	same(t, printed > 100, true, printed)
}

// outcome is what a call returns: its other results, and its error.
type outcome struct {
	results []any
	e       api.Errno
}

// callAll calls each function of the package.
func callAll(r rope.Rope, a, b, c int, list, other []int, free []rope.Free, numbers []api.Rat, x rope.Reason) map[string]outcome {
	all := map[string]outcome{}
	add := func(name string, e api.Errno, results ...any) { all[name] = outcome{results, e} }
	add("CheckRope", rope.CheckRope(r))
	depth, e := rope.Depth(r)
	add("Depth", e, depth)
	yarns, e := rope.Yarns(r, a)
	add("Yarns", e, yarns)
	for name, call := range measures(r, a, b, c) {
		span, e := call()
		add(name, e, span)
	}
	for name, call := range map[string]func(rope.Rope, int) (api.Rat, api.Errno){"Filling": rope.Filling, "Turns": rope.Turns, "Moment": rope.Moment} {
		number, e := call(r, a)
		add(name, e, number)
	}
	unbalanced, e := rope.Unbalanced(r)
	add("Unbalanced", e, unbalanced)
	set, e := rope.Set(r, list, numbers)
	add("Set", e, set)
	twists, e := rope.Balance(r, free)
	add("Balance", e, twists)
	reason, e := rope.Why(r, free)
	add("Why", e, reason)
	add("CheckWhy", rope.CheckWhy(r, free, x))
	fixed, e := rope.Fix(r, list, other)
	add("Fix", e, fixed)
	y, e := rope.Refute(r, list, other)
	add("Refute", e, y)
	add("CheckRefute", rope.CheckRefute(r, list, other, numbers))
	mirror, e := rope.Mirror(r)
	add("Mirror", e, mirror)
	text, e := rope.Print(r)
	add("Print", e, text)
	return all
}

// isNothing tells whether a result is the zero value of its type.
func isNothing(result any) bool {
	switch x := result.(type) {
	case rope.Rope:
		return x.Name == "" && len(x.Parts) == 0
	case []int:
		return len(x) == 0
	case []api.Rat:
		return len(x) == 0
	}
	return slices.Contains([]any{0, "", api.Rat(""), api.Span{}, rope.Reason{}}, result)
}

func TestTheRopeIsCheckedFirst(t *testing.T) {
	for _, bad := range []struct {
		change func(r *rope.Rope)
		e      api.Errno
	}{
		{func(r *rope.Rope) { r.Name = "" }, api.ErrName}, {func(r *rope.Rope) { r.Parts = nil }, api.ErrEmpty},
		{func(r *rope.Rope) { r.Parts = make([]rope.Part, 65) }, api.ErrMany},
		{func(r *rope.Rope) { r.Parts[1].Parent = 1 }, api.ErrUnknown},
		{func(r *rope.Rope) { r.Parts[2].Parent = math.MaxInt }, api.ErrUnknown},
		{func(r *rope.Rope) { r.Parts[2].Tex = nines(601) }, api.ErrLarge},
		{func(r *rope.Rope) { r.Parts[0].Parent = 2 }, api.ErrUnknown}, {func(r *rope.Rope) { r.Parts[4].Stiff = "-1" }, api.ErrRange},
		{func(r *rope.Rope) { r.Parts[5].Hand = 5 }, api.ErrHand},
	} {
		r := cored()
		bad.change(&r)
		for _, wrong := range []int{0, -1, 64, math.MinInt} {
			for name, got := range callAll(r, wrong, wrong, wrong, []int{wrong, wrong}, []int{wrong, 0}, []rope.Free{{}, {}}, []api.Rat{"x"}, rope.Reason{}) {
				same(t, got.e, bad.e, name)
				same(t, slices.ContainsFunc(got.results, func(x any) bool { return !isNothing(x) }), false, name, got)
			}
		}
	}
}

// anyNumber returns a number, or a text that is none.
func anyNumber(source *rand.Rand) api.Rat {
	if source.Intn(6) == 0 {
		return badNumbers()[source.Intn(len(badNumbers()))].text
	}
	return rat(signedRat(source, 2))
}

// anyInt returns an integer that is mostly small.
func anyInt(source *rand.Rand) int {
	if source.Intn(12) == 0 {
		return []int{math.MinInt, math.MaxInt, 1 << 32, -1 << 31, 999999999}[source.Intn(5)]
	}
	return source.Intn(9) - 2
}

// anyRope returns a rope of which a few parts are mostly wrong.
func anyRope(source *rand.Rand) rope.Rope {
	r := randomRope(source, 8, 2)
	for range source.Intn(3) {
		p := &r.Parts[source.Intn(len(r.Parts))]
		*[]*int{&p.Parent, &p.Hand, &p.Lay, &p.Radius, &p.Thick, &p.Count, &p.Yarns}[source.Intn(7)] = anyInt(source)
		*[]*api.Rat{&p.Twist, &p.Tex, &p.Stiff}[source.Intn(3)] = anyNumber(source)
	}
	return r
}

func TestAnyArguments(t *testing.T) {
	source := seeded()
	for range 3000 {
		r := anyRope(source)
		var list, other []int
		var free []rope.Free
		var numbers []api.Rat
		for range source.Intn(4) {
			list, other = append(list, anyInt(source)), append(other, anyInt(source))
			free = append(free, rope.Free{Part: anyInt(source), Low: anyNumber(source), High: anyNumber(source)})
			numbers = append(numbers, anyNumber(source))
		}
		given := withTwists(r, nil, nil)
		x := rope.Reason{End: []string{"low", "high", "", "x"}[source.Intn(4)], Moment: anyNumber(source)}
		a, b, c := anyInt(source), anyInt(source), anyInt(source)
		for name, got := range callAll(r, a, b, c, list, other, free, numbers, x) {
			if got.e != api.OK {
				same(t, slices.ContainsFunc(got.results, func(x any) bool { return !isNothing(x) }), false, name, got)
			}
		}
		same(t, r, given, "an argument was changed")
		bytes := make([]byte, source.Intn(40))
		source.Read(bytes)
		back, _, e := rope.Parse(strings.Repeat("rope r\n", source.Intn(2)) + string(bytes) + "\n")
		same(t, isNothing(back), e != api.OK, bytes)
	}
}

// Arguments and results share no memory, and arguments are not changed.
func TestMemory(t *testing.T) {
	r, free := cored(), []rope.Free{bounded(2, "-100", "100"), bounded(4, "-7", "9")}
	balanced, parts, y := []int{2, 4}, []int{2, 3}, []api.Rat{"1", "2"}
	first := callAll(r, 1, 10, 5, balanced, parts, free, y, rope.Reason{End: "low", Moment: "1"})
	same(t, r, cored())
	same(t, free, []rope.Free{bounded(2, "-100", "100"), bounded(4, "-7", "9")})
	same(t, []any{balanced, parts, y}, []any{[]int{2, 4}, []int{2, 3}, []api.Rat{"1", "2"}})
	for name, got := range first {
		for _, result := range got.results {
			switch x := result.(type) {
			case rope.Rope:
				x.Parts[0].Name, x.Parts[1].Thick = "changed", 0
			case []int:
				clear(x)
			case []api.Rat:
				clear(x)
			}
		}
		same(t, r, cored(), name)
	}
	same(t, []any{balanced, parts, y}, []any{[]int{2, 4}, []int{2, 3}, []api.Rat{"1", "2"}})
	text, _ := rope.Print(r)
	a, _, _ := rope.Parse(text)
	b, _, _ := rope.Parse(text)
	a.Parts[0].Name = "changed"
	same(t, b, cored())
}
