package rope_test

import (
	"fmt"
	"math"
	"slices"
	"strings"
	"testing"

	"becket/api"
	"becket/rope"
)

// The tests of P3.1.

// partFaults returns the faults of a part that is a leaf with a hand, in the order of their errors.
func partFaults(part int) []fault[rope.Rope] {
	var faults []fault[rope.Rope]
	add := func(e api.Errno, change func(p *rope.Part)) {
		faults = append(faults, fault[rope.Rope]{func(r *rope.Rope) { change(&r.Parts[part]) }, e})
	}
	for _, name := range badNames() {
		add(api.ErrName, func(p *rope.Part) { p.Name = name })
	}
	add(api.ErrTwice, func(p *rope.Part) { p.Name = "rope" })
	add(api.ErrTwice, func(p *rope.Part) { p.Name = "strand" })
	for _, parent := range []int{-1, part, part + 1, 99, math.MinInt, math.MaxInt} {
		add(api.ErrUnknown, func(p *rope.Part) { p.Parent = parent })
	}
	for _, hand := range []int{-2, 2, math.MinInt, math.MaxInt} {
		add(api.ErrHand, func(p *rope.Part) { p.Hand = hand })
	}
	add(api.ErrRange, func(p *rope.Part) { p.Hand, p.Lay, p.Radius, p.Count = 0, 1, 0, 1 })
	add(api.ErrRange, func(p *rope.Part) { p.Hand, p.Lay, p.Radius, p.Count = 0, 0, 1, 1 })
	for _, count := range []int{0, -1, 2, 64} {
		add(api.ErrRange, func(p *rope.Part) { p.Hand, p.Lay, p.Radius, p.Count = 0, 0, 0, count })
	}
	for _, bad := range []int{0, -1, math.MinInt, math.MaxInt} {
		add(api.ErrRange, func(p *rope.Part) { p.Lay = bad })
		add(api.ErrRange, func(p *rope.Part) { p.Radius = bad })
		add(api.ErrRange, func(p *rope.Part) { p.Count = bad })
		add(api.ErrRange, func(p *rope.Part) { p.Thick = bad })
	}
	add(api.ErrRange, func(p *rope.Part) { p.Lay = 100001 })
	add(api.ErrRange, func(p *rope.Part) { p.Radius = 1000001 })
	add(api.ErrRange, func(p *rope.Part) { p.Count = 65 })
	add(api.ErrRange, func(p *rope.Part) { p.Thick = 1000001 })
	add(api.ErrShape, func(p *rope.Part) { p.Radius, p.Thick = 1000, 2001 })
	add(api.ErrShape, func(p *rope.Part) { p.Radius, p.Thick = 2001, 1000 })
	for _, field := range []func(p *rope.Part) *api.Rat{
		func(p *rope.Part) *api.Rat { return &p.Twist }, func(p *rope.Part) *api.Rat { return &p.Tex }, func(p *rope.Part) *api.Rat { return &p.Stiff },
	} {
		for _, bad := range badNumbers() {
			add(bad.e, func(p *rope.Part) { *field(p) = bad.text })
		}
	}
	for _, yarns := range []int{0, -1, 100001, math.MinInt, math.MaxInt} {
		add(api.ErrRange, func(p *rope.Part) { p.Yarns = yarns })
	}
	for _, tex := range []api.Rat{"0", "-1", "-1/" + nines(600)} {
		add(api.ErrRange, func(p *rope.Part) { p.Tex = tex })
	}
	add(api.ErrRange, func(p *rope.Part) { p.Stiff = "-1/2" })
	return faults
}

func TestCheckRope(t *testing.T) {
	var faults []fault[rope.Rope]
	add := func(e api.Errno, change func(r *rope.Rope)) { faults = append(faults, fault[rope.Rope]{change, e}) }
	for _, name := range badNames() {
		add(api.ErrName, func(r *rope.Rope) { r.Name = name })
	}
	faults = append(faults, partFaults(2)...)
	checkFaults(t, cored, faults, rope.CheckRope)
	for _, f := range faults {
		r := cored()
		f.make(&r)
		r.Parts[1].Thick = 0 // an error of an earlier part, late in the list of errors
		wanted := api.ErrRange
		if r.Name != "r" {
			wanted = api.ErrName // that of the rope comes before all parts
		}
		same(t, rope.CheckRope(r), wanted, "the first part with an error", r)
	}
	same(t, rope.CheckRope(rope.Rope{}), api.ErrName)
	same(t, rope.CheckRope(rope.Rope{Name: "r"}), api.ErrEmpty)
	same(t, rope.CheckRope(rope.Rope{Name: "1", Parts: make([]rope.Part, 65)}), api.ErrName)
	same(t, rope.CheckRope(rope.Rope{Name: "r", Parts: make([]rope.Part, 65)}), api.ErrMany)
	same(t, rope.CheckRope(rope.Rope{Name: "r", Parts: make([]rope.Part, 64)}), api.ErrName)
}

func TestErrorsOfTheRopeItself(t *testing.T) {
	var faults []fault[rope.Rope]
	add := func(e api.Errno, change func(p *rope.Part)) {
		faults = append(faults, fault[rope.Rope]{func(r *rope.Rope) { change(&r.Parts[0]) }, e})
	}
	add(api.ErrName, func(p *rope.Part) { p.Name = "a b" })
	for _, parent := range []int{0, 1, -2, math.MinInt} {
		add(api.ErrUnknown, func(p *rope.Part) { p.Parent = parent })
	}
	for _, hand := range []int{1, -1, 2} { // the other numbers would suit a part with a hand
		add(api.ErrHand, func(p *rope.Part) { p.Hand, p.Lay, p.Radius = hand, 1, 1 })
	}
	add(api.ErrRange, func(p *rope.Part) { p.Lay = 1 })
	add(api.ErrRange, func(p *rope.Part) { p.Radius = 1 })
	add(api.ErrRange, func(p *rope.Part) { p.Count = 0 })
	add(api.ErrRange, func(p *rope.Part) { p.Count = 2 })
	add(api.ErrRange, func(p *rope.Part) { p.Thick = 0 })
	add(api.ErrRange, func(p *rope.Part) { p.Thick = 1000001 })
	for _, bad := range badNumbers() {
		add(bad.e, func(p *rope.Part) { p.Twist = bad.text })
	}
	for _, bad := range badNumbers() {
		add(bad.e, func(p *rope.Part) { p.Tex = bad.text })
	}
	for _, bad := range badNumbers() {
		add(bad.e, func(p *rope.Part) { p.Stiff = bad.text })
	}
	add(api.ErrRange, func(p *rope.Part) { p.Yarns = 1 }) // it is a parent
	add(api.ErrRange, func(p *rope.Part) { p.Yarns = -1 })
	add(api.ErrRange, func(p *rope.Part) { p.Tex = "1" })
	add(api.ErrRange, func(p *rope.Part) { p.Stiff = "1/2" })
	add(api.ErrRange, func(p *rope.Part) { p.Yarns, p.Tex, p.Stiff = 1, "1", "1" })
	checkFaults(t, laid, faults, rope.CheckRope)
	for _, change := range []func(p *rope.Part){
		func(p *rope.Part) { p.Thick = 1000000 }, func(p *rope.Part) { p.Twist = "-7/3" }, func(p *rope.Part) { p.Twist = nines(600) },
	} {
		r := laid()
		change(&r.Parts[0])
		same(t, rope.CheckRope(r), api.OK, r)
	}
}

func TestCheckRopeAccepts(t *testing.T) {
	for i, change := range []func(p *rope.Part){
		func(p *rope.Part) { p.Name = strings.Repeat("a", 24) }, func(p *rope.Part) { p.Name = "r" }, // also that of the rope
		func(p *rope.Part) { p.Hand = 1 }, func(p *rope.Part) { p.Hand, p.Lay, p.Radius, p.Count = 0, 0, 0, 1 },
		func(p *rope.Part) { p.Hand, p.Lay, p.Radius, p.Count, p.Thick = 0, 0, 0, 1, 3000 },
		func(p *rope.Part) { p.Lay = 1 }, func(p *rope.Part) { p.Lay = 100000 }, func(p *rope.Part) { p.Count = 1 }, func(p *rope.Part) { p.Count = 64 },
		func(p *rope.Part) { p.Radius, p.Thick = 1, 1 }, func(p *rope.Part) { p.Radius, p.Thick = 2999, 1 },
		func(p *rope.Part) { p.Radius, p.Thick = 1, 2999 },
		func(p *rope.Part) { p.Twist = "-" + nines(600) }, func(p *rope.Part) { p.Yarns = 1 }, func(p *rope.Part) { p.Yarns = 100000 },
		func(p *rope.Part) { p.Tex = "1/" + nines(600) }, func(p *rope.Part) { p.Stiff = "0" }, func(p *rope.Part) { p.Stiff = nines(600) },
		func(p *rope.Part) { p.Parent, p.Radius, p.Thick = 0, 3000, 3000 },
	} {
		r := cored()
		change(&r.Parts[2])
		same(t, rope.CheckRope(r), api.OK, i)
	}
	wide := chain(1)
	wide.Parts[0].Thick = 1000000
	same(t, rope.CheckRope(wide), api.OK, "the rope alone is a leaf")
	wide.Parts[0].Yarns, wide.Parts[0].Tex = 0, "0"
	same(t, rope.CheckRope(wide), api.ErrRange, "and needs yarns")
	many := bundle(slices.Repeat([]api.Rat{"1"}, 63)...)
	same(t, rope.CheckRope(many), api.OK, "64 parts")
	many.Parts = append(many.Parts, core("more", 0, 1, "0", "0"))
	same(t, rope.CheckRope(many), api.ErrMany)
}

func TestCoresThatDoNotFit(t *testing.T) {
	for thick, wanted := range map[int]api.Errno{1: api.OK, 6000: api.OK, 6001: api.ErrShape, 1000000: api.ErrShape, 1000001: api.ErrRange} {
		r := cored()
		r.Parts[3].Thick = thick
		same(t, rope.CheckRope(r), wanted, thick)
		r.Parts[3].Twist = "x"
		same(t, rope.CheckRope(r), max(wanted, api.ErrForm), thick) // ErrForm is the least error
	}
}

// A part is a parent also by a part behind it that has an error itself.
func TestParentsOfWrongParts(t *testing.T) {
	r := laid()
	r.Parts[2].Name = ""
	same(t, rope.CheckRope(r), api.ErrName)
	r.Parts[1].Yarns = 1
	same(t, rope.CheckRope(r), api.ErrRange)
	r = laid()
	r.Parts[2].Parent = 2 // so that the strand has no part, and no yarns
	same(t, rope.CheckRope(r), api.ErrRange)
}

func TestLevels(t *testing.T) {
	for levels := 1; levels <= 8; levels++ {
		r := chain(levels)
		wanted := api.OK
		if levels > 6 {
			wanted = api.ErrMany
		}
		same(t, rope.CheckRope(r), wanted, levels)
		depth, e := rope.Depth(r)
		same(t, e, wanted, levels)
		same(t, depth == levels, e == api.OK, levels)
	}
	faults := []fault[rope.Rope]{
		{func(r *rope.Rope) { r.Parts[6].Thick = 1000000 }, api.ErrShape},
		{func(r *rope.Rope) { *r = chain(7) }, api.ErrMany},
		{func(r *rope.Rope) { r.Parts[6].Twist = nines(601) }, api.ErrLarge},
	}
	checkFaults(t, func() rope.Rope {
		r := chain(7)
		r.Parts[6].Parent = 4 // a second leaf of the sixth level
		r.Parts[5].Yarns, r.Parts[5].Tex = 1, "1"
		return r
	}, faults, rope.CheckRope)
	depth, e := rope.Depth(cored())
	same(t, []any{depth, e}, []any{3, api.OK})
	source := seeded()
	for range 100 {
		r := randomRope(source, 64, 3)
		deepest := 0
		for part := range r.Parts {
			deepest = max(deepest, levelIn(r, part))
		}
		depth, e := rope.Depth(r)
		same(t, []any{depth, e}, []any{deepest, api.OK})
	}
}

func TestYarns(t *testing.T) {
	for part, wanted := range []int{30 + 3 + 1 + 36, 10 + 1, 2, 1, 9, 1} {
		yarns, e := rope.Yarns(cored(), part)
		same(t, []any{yarns, e}, []any{wanted, api.OK}, part)
	}
	for part, wanted := range []int{30, 10, 2} {
		yarns, e := rope.Yarns(laid(), part)
		same(t, []any{yarns, e}, []any{wanted, api.OK}, part)
	}
	source := seeded()
	for range 60 {
		r := randomRope(source, 64, 3)
		for part := range r.Parts {
			wanted := 0
			for leaf, p := range r.Parts {
				if isLeaf(r, leaf) {
					wanted += countIn(r, part, leaf) * p.Yarns
				}
			}
			yarns, e := rope.Yarns(r, part)
			same(t, []any{yarns, e}, []any{wanted, api.OK}, part)
		}
	}
	most := rope.Rope{Name: "most", Parts: []rope.Part{{Name: "p0", Parent: -1, Thick: 1000000, Count: 1, Twist: "0", Tex: "0", Stiff: "0"}}}
	for i := 1; i < 64; i++ { // a chain of five, and 58 more parts of the last one but one
		p := rope.Part{Name: fmt.Sprint("p", i), Parent: min(i-1, 4), Hand: 1, Lay: 1, Radius: 1, Thick: 1000000 - min(i, 5), Count: 64, Twist: "0", Tex: "0", Stiff: "0"}
		if i >= 5 {
			p.Yarns, p.Tex = 100000, "1"
		}
		most.Parts = append(most.Parts, p)
	}
	yarns, e := rope.Yarns(most, 0)
	same(t, []any{yarns, e}, []any{59 * 100000 << 30, api.OK}, "the greatest number")
}

func TestFilling(t *testing.T) {
	strands := rat(ratio(3*3000*3000+1500*1500+4*700*700, 6000*6000))
	yarns := rat(ratio(5*1000*1000+800*800, 3000*3000))
	for part, wanted := range []api.Rat{strands, yarns, "", "", "", ""} {
		code := api.OK
		if wanted == "" {
			code = api.ErrKind
		}
		filling, e := rope.Filling(cored(), part)
		same(t, []any{filling, e}, []any{wanted, code}, part)
	}
	for part, wanted := range []api.Rat{"3/4", "5/9"} {
		filling, e := rope.Filling(laid(), part)
		same(t, []any{filling, e}, []any{wanted, api.OK}, part)
	}
	full, e := rope.Filling(chain(6), 4)
	same(t, []any{full, e}, []any{api.Rat("1"), api.OK}, "as thick as its parent")
}

func TestPartsThatDoNotExist(t *testing.T) {
	for _, part := range []int{-1, 3, 64, math.MinInt, math.MaxInt} {
		for name, call := range map[string]func() api.Errno{
			"Yarns":   func() api.Errno { _, e := rope.Yarns(laid(), part); return e },
			"Filling": func() api.Errno { _, e := rope.Filling(laid(), part); return e },
			"Turns":   func() api.Errno { _, e := rope.Turns(laid(), part); return e },
			"Moment":  func() api.Errno { _, e := rope.Moment(laid(), part); return e },
			"Angle":   func() api.Errno { _, e := rope.Angle(laid(), part, 0); return e },
			"Factor":  func() api.Errno { _, e := rope.Factor(laid(), part, 0); return e },
			"Length":  func() api.Errno { _, e := rope.Length(laid(), part, 0, 0); return e },
		} {
			same(t, call(), api.ErrUnknown, name, part)
		}
	}
}
