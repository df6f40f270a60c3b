package rope_test

import (
	"fmt"
	"math/big"
	"math/rand"
	"reflect"
	"slices"
	"strings"
	"testing"

	"becket/api"
	"becket/rope"
)

// The tests use the exported functions of the package alone, and compare with a plain model on math/big.

// same fails the test if a result is not the wanted one; nil and empty slices are equivalent.
func same(t *testing.T, got, wanted any, what ...any) {
	t.Helper()
	g, w := reflect.ValueOf(got), reflect.ValueOf(wanted)
	if g.Kind() == reflect.Slice && g.Len() == 0 && w.Kind() == reflect.Slice && w.Len() == 0 {
		return
	}
	if !reflect.DeepEqual(got, wanted) {
		t.Errorf("%s: got %s, want %s", shortened(what), shortened(got), shortened(wanted))
	}
}

// shortened keeps long numbers out of messages.
func shortened(value any) string {
	text := fmt.Sprint(value)
	return text[:min(len(text), 300)]
}

// rat returns the text of a number.
func rat(number *big.Rat) api.Rat {
	return api.Rat(number.RatString())
}

// value returns the number of a text that is known to be one.
func value(text api.Rat) *big.Rat {
	number, ok := new(big.Rat).SetString(string(text))
	if !ok {
		panic(fmt.Sprintf("%q is no number", text))
	}
	return number
}

// limited returns what a function has to return for a number: its text, or ErrLarge.
func limited(number *big.Rat) (api.Rat, api.Errno) {
	if len(strings.TrimPrefix(number.Num().String(), "-")) > api.MaxDigits || len(number.Denom().String()) > api.MaxDigits {
		return "", api.ErrLarge
	}
	return rat(number), api.OK
}

// sameLimited fails the test if a number and its error are not those of a result.
func sameLimited(t *testing.T, got api.Rat, e api.Errno, wanted *big.Rat, what ...any) {
	t.Helper()
	text, code := limited(wanted)
	same(t, []any{got, e}, []any{text, code}, what...)
}

// ratio and whole return numbers for the model.
func ratio(top, bottom int) *big.Rat { return big.NewRat(int64(top), int64(bottom)) }
func whole(number int) *big.Rat      { return ratio(number, 1) }

func plus(a, b *big.Rat) *big.Rat  { return new(big.Rat).Add(a, b) }
func times(a, b *big.Rat) *big.Rat { return new(big.Rat).Mul(a, b) }

// nines returns the greatest integer with so many digits, and ten a power of ten.
func nines(count int) api.Rat  { return api.Rat(strings.Repeat("9", count)) }
func ten(exponent int) api.Rat { return api.Rat("1" + strings.Repeat("0", exponent)) }

// pieces returns four numbers whose sum is 2, while the sum of no two or three of them has so few digits.
func pieces() []api.Rat {
	return []api.Rat{"1/" + nines(600), "1/" + ten(599), nines(599) + "8/" + nines(600), nines(599) + "/" + ten(599)}
}

// seeded returns a source of numbers that is the same in each run.
func seeded() *rand.Rand {
	return rand.New(rand.NewSource(39373))
}

// randomRat returns a number from 0 on whose parts have up to so many digits.
func randomRat(source *rand.Rand, most int) *big.Rat {
	part := func() *big.Int {
		limit := new(big.Int).Exp(big.NewInt(10), big.NewInt(int64(1+source.Intn(most))), nil)
		return limit.Rand(source, limit)
	}
	bottom := part()
	if bottom.Sign() == 0 || source.Intn(3) == 0 {
		bottom.SetInt64(1)
	}
	return new(big.Rat).SetFrac(part(), bottom)
}

// signedRat returns such a number, or its opposite.
func signedRat(source *rand.Rand, most int) *big.Rat {
	number := randomRat(source, most)
	if source.Intn(2) == 0 {
		number.Neg(number)
	}
	return number
}

// badNumber is a text with the error that a function has to return for it.
type badNumber struct {
	text api.Rat
	e    api.Errno
}

// badNumbers returns texts that are no numbers.
func badNumbers() []badNumber {
	return []badNumber{
		{"", api.ErrForm}, {"x", api.ErrForm}, {"2/4", api.ErrForm}, {"-0", api.ErrForm}, {"1/0", api.ErrForm},
		{nines(601), api.ErrLarge}, {"1/" + nines(601), api.ErrLarge},
	}
}

// badNames returns texts that are no names.
func badNames() []string {
	return []string{"", "1", "_a", "a b", "a-b", "é", "\xff", strings.Repeat("a", 25)}
}

// fault makes something wrong, so that the error has to be returned.
type fault[T any] struct {
	make func(x *T)
	e    api.Errno
}

// checkFaults fails the test for each fault, in the order of their errors, that does not decide alone, or together with
// one that comes after it.
func checkFaults[T any](t *testing.T, good func() T, faults []fault[T], check func(x T) api.Errno) {
	t.Helper()
	same(t, check(good()), api.OK, "without a fault")
	for i, first := range faults {
		for k, later := range faults[i:] {
			x := good()
			later.make(&x)
			first.make(&x) // the last one, for it may overwrite what the later one made
			same(t, check(x), first.e, "fault", i, "before", i+k)
		}
	}
}

// laid returns the rope R of the chapter.
func laid() rope.Rope {
	return rope.Rope{Name: "r", Parts: []rope.Part{
		{Name: "rope", Parent: -1, Thick: 6000, Count: 1, Twist: "0", Tex: "0", Stiff: "0"},
		{Name: "strand", Hand: 1, Lay: 40, Radius: 3000, Thick: 3000, Count: 3, Twist: "0", Tex: "0", Stiff: "0"},
		{Name: "yarn", Parent: 1, Hand: -1, Lay: 20, Radius: 1000, Thick: 1000, Count: 5, Twist: "0", Yarns: 2, Tex: "100", Stiff: "1"},
	}}
}

// cored returns a rope with a core, and two kinds of strands of which one has yarns of two kinds.
func cored() rope.Rope {
	r := laid()
	r.Parts = append(r.Parts,
		core("heart", 0, 1500, "7/3", "1/2"),
		rope.Part{Name: "thin", Hand: -1, Lay: 70, Radius: 4000, Thick: 700, Count: 4, Twist: "-5/2", Yarns: 9, Tex: "30", Stiff: "2/7"},
		core("inner", 1, 800, "3", "4"),
	)
	return r
}

// core returns a leaf of one yarn that is laid as a core.
func core(name string, parent, thick int, twist, stiff api.Rat) rope.Part {
	return rope.Part{Name: name, Parent: parent, Thick: thick, Count: 1, Twist: twist, Yarns: 1, Tex: "1", Stiff: stiff}
}

// bundle returns a rope of cores alone with these stiffnesses and the twist 1, the weights being those of their numbers.
func bundle(stiff ...api.Rat) rope.Rope {
	r := rope.Rope{Name: "bundle", Parts: laid().Parts[:1]}
	for i, s := range stiff {
		r.Parts = append(r.Parts, core(fmt.Sprint("c", i), 0, 1, "1", s))
	}
	return r
}

// chain returns a rope with so many levels, each part being the core of the one before.
func chain(levels int, twists ...api.Rat) rope.Rope {
	r := rope.Rope{Name: "chain"}
	for i := range levels {
		part := core(fmt.Sprint("c", i), i-1, 9, "0", "1")
		if i < len(twists) {
			part.Twist = twists[i]
		}
		if i < levels-1 {
			part.Yarns, part.Tex, part.Stiff = 0, "0", "0"
		}
		r.Parts = append(r.Parts, part)
	}
	return r
}

// randomRope returns a rope with up to so many parts, whose numbers have up to so many digits.
func randomRope(source *rand.Rand, most, digits int) rope.Rope {
	r := rope.Rope{Name: "random", Parts: []rope.Part{{Name: "p0", Parent: -1, Thick: 1 + source.Intn(rope.MaxRadius), Count: 1}}}
	last := source.Intn(most)
	for i := 1; i <= last; i++ {
		parent := source.Intn(i)
		if levelIn(r, parent) == api.MaxDepth {
			parent = 0
		}
		p, room := rope.Part{Name: fmt.Sprint("p", i), Parent: parent, Count: 1}, r.Parts[parent].Thick
		if room == 1 || source.Intn(4) == 0 {
			p.Thick = 1 + source.Intn(room)
		} else {
			p.Hand, p.Lay, p.Count = 2*source.Intn(2)-1, 1+source.Intn(300), 1+source.Intn(6)
			p.Radius = 1 + source.Intn(room-1)
			p.Thick = 1 + source.Intn(room-p.Radius)
		}
		r.Parts = append(r.Parts, p)
	}
	for i := range r.Parts {
		p := &r.Parts[i]
		p.Twist, p.Tex, p.Stiff = rat(signedRat(source, digits)), "0", "0"
		if isLeaf(r, i) {
			p.Yarns, p.Tex = 1+source.Intn(50), rat(plus(randomRat(source, digits), whole(1)))
			p.Stiff = rat(randomRat(source, digits))
		}
	}
	return r
}

// wayUp returns the parts from a part up to the rope itself.
func wayUp(r rope.Rope, part int) []int {
	var list []int
	for ; part >= 0; part = r.Parts[part].Parent {
		list = append(list, part)
	}
	return list
}

func levelIn(r rope.Rope, part int) int {
	return len(wayUp(r, part))
}

func isLeaf(r rope.Rope, part int) bool {
	return !slices.ContainsFunc(r.Parts, func(p rope.Part) bool { return p.Parent == part })
}

// countIn returns how many of a leaf a part has; none if the way to it does not lead through the part.
func countIn(r rope.Rope, part, leaf int) int {
	count := 1
	for _, on := range wayUp(r, leaf) {
		if on == part {
			return count
		}
		count *= r.Parts[on].Count
	}
	return 0
}

// turnsIn returns the turns of a part in the model.
func turnsIn(r rope.Rope, part int) *big.Rat {
	sum := new(big.Rat)
	for _, on := range wayUp(r, part) {
		p := r.Parts[on]
		sum.Add(sum, value(p.Twist))
		if p.Hand != 0 {
			sum.Add(sum, ratio(1000*p.Hand, p.Lay))
		}
	}
	return sum
}

// momentIn returns the moment of a part in the model.
func momentIn(r rope.Rope, part int) *big.Rat {
	sum := new(big.Rat)
	for leaf, p := range r.Parts {
		if isLeaf(r, leaf) {
			weight := times(whole(countIn(r, part, leaf)*p.Yarns), value(p.Stiff))
			sum.Add(sum, times(weight, turnsIn(r, leaf)))
		}
	}
	return sum
}

// withTwists returns the rope in which some parts have other twists.
func withTwists(r rope.Rope, parts []int, twists []api.Rat) rope.Rope {
	r.Parts = slices.Clone(r.Parts)
	for i, part := range parts {
		r.Parts[part].Twist = twists[i]
	}
	return r
}

// bounded returns free parts with bounds.
func bounded(part int, low, high api.Rat) rope.Free {
	return rope.Free{Part: part, Low: low, High: high}
}

// partsOf returns the numbers of free parts, and lows and highs their ends.
func partsOf(free []rope.Free) []int {
	var list []int
	for _, f := range free {
		list = append(list, f.Part)
	}
	return list
}

func lows(free []rope.Free) []api.Rat {
	var list []api.Rat
	for _, f := range free {
		list = append(list, f.Low)
	}
	return list
}

func highs(free []rope.Free) []api.Rat {
	var list []api.Rat
	for _, f := range free {
		list = append(list, f.High)
	}
	return list
}
