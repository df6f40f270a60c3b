package rope_test

import (
	"math"
	"slices"
	"strings"
	"testing"

	"becket/api"
	"becket/rope"
)

// The tests of P3.3.

func TestTurnsAndMomentsOfTheChapter(t *testing.T) {
	for part, wanted := range []struct{ turns, moment api.Rat }{{"0", "-750"}, {"25", "-250"}, {"-25", "-50"}} {
		turns, e := rope.Turns(laid(), part)
		same(t, []any{turns, e}, []any{wanted.turns, api.OK}, part)
		moment, e := rope.Moment(laid(), part)
		same(t, []any{moment, e}, []any{wanted.moment, api.OK}, part)
	}
	unbalanced, e := rope.Unbalanced(laid())
	same(t, []any{unbalanced, e}, []any{[]int{0, 1, 2}, api.OK})
}

func TestTurnsAndMomentsOfModel(t *testing.T) {
	source := seeded()
	ropes := []rope.Rope{cored(), chain(6, "1", "-1/2", "1/3", "-1/4", "1/5", "-1/6"), bundle("1/2", "1/3", "0")}
	for i := range 60 {
		ropes = append(ropes, randomRope(source, 20, []int{1, 4, 90}[i%3]))
	}
	for i, r := range ropes {
		var wanted []int
		for part := range r.Parts {
			turns, e := rope.Turns(r, part)
			sameLimited(t, turns, e, turnsIn(r, part), "turns", i, part)
			moment, e := rope.Moment(r, part)
			sameLimited(t, moment, e, momentIn(r, part), "moment", i, part)
			if momentIn(r, part).Sign() != 0 {
				wanted = append(wanted, part)
			}
		}
		unbalanced, e := rope.Unbalanced(r)
		same(t, unbalanced, wanted, i)
		same(t, e, api.OK, i)
	}
}

func TestUnbalanced(t *testing.T) {
	for _, row := range []struct {
		parts  []int
		twists []api.Rat
		wanted []int
	}{
		{[]int{2}, []api.Rat{"25"}, nil}, {[]int{1}, []api.Rat{"25"}, nil}, {[]int{0}, []api.Rat{"25"}, nil},
		{[]int{2, 1}, []api.Rat{"26", "-1"}, nil}, {[]int{2}, []api.Rat{"24"}, []int{0, 1, 2}}, {[]int{2}, []api.Rat{"251/10"}, []int{0, 1, 2}},
	} {
		unbalanced, e := rope.Unbalanced(withTwists(laid(), row.parts, row.twists))
		same(t, unbalanced, row.wanted, row)
		same(t, e, api.OK, row)
	}
	opposite := bundle("1", "1", "0")
	opposite.Parts[2].Twist = "-1"
	unbalanced, _ := rope.Unbalanced(opposite)
	same(t, unbalanced, []int{1, 2}, "the rope is balanced, two of its parts are not")
	huge := bundle(nines(600))
	huge.Parts[1].Twist, huge.Parts[1].Yarns = nines(600), 100000
	unbalanced, e := rope.Unbalanced(huge)
	same(t, []any{unbalanced, e}, []any{[]int{0, 1}, api.OK}, "moments with too many digits")
}

// The sum of the turns, or of the moments, of some parts may have too many digits, while that of all of them has not.
func TestTwistsBeyondTheLimit(t *testing.T) {
	for _, order := range [][]int{{0, 1, 2, 3}, {0, 2, 1, 3}, {3, 2, 1, 0}} {
		var ordered []api.Rat
		for _, place := range order {
			ordered = append(ordered, pieces()[place])
		}
		moment, e := rope.Moment(bundle(ordered...), 0)
		same(t, []any{moment, e}, []any{api.Rat("2"), api.OK}, order)
		turns, e := rope.Turns(chain(4, ordered...), 3)
		same(t, []any{turns, e}, []any{api.Rat("2"), api.OK}, order)
		moment, e = rope.Moment(chain(4, ordered...), 0)
		same(t, []any{moment, e}, []any{api.Rat("2"), api.OK}, order)
	}
	turns, e := rope.Turns(chain(2, pieces()...), 1)
	same(t, []any{turns, e}, []any{api.Rat(""), api.ErrLarge})
	moment, e := rope.Moment(chain(2, pieces()...), 1)
	same(t, []any{moment, e}, []any{api.Rat(""), api.ErrLarge})
	moment, e = rope.Moment(bundle(pieces()[:2]...), 0)
	same(t, []any{moment, e}, []any{api.Rat(""), api.ErrLarge})
	moment, e = rope.Moment(bundle(pieces()[:2]...), 1)
	same(t, []any{moment, e}, []any{pieces()[0], api.OK}, "that of a part fits")
	turns, e = rope.Turns(chain(2, nines(600), "1"), 1)
	same(t, []any{turns, e}, []any{api.Rat(""), api.ErrLarge})
	turns, e = rope.Turns(chain(3, nines(600), "1", "-1"), 2)
	same(t, []any{turns, e}, []any{nines(600), api.OK})
}

func TestSet(t *testing.T) {
	for _, row := range []struct {
		parts  []int
		twists []api.Rat
	}{
		{nil, nil}, {[]int{}, []api.Rat{}}, {[]int{0}, []api.Rat{"1"}}, {[]int{2, 0}, []api.Rat{"-7/3", nines(600)}},
		{[]int{5, 4, 3, 2, 1, 0}, []api.Rat{"1", "2", "3", "4", "5", "6"}},
	} {
		given := cored()
		set, e := rope.Set(given, row.parts, row.twists)
		same(t, e, api.OK, row)
		same(t, set, withTwists(cored(), row.parts, row.twists), row)
		same(t, rope.CheckRope(set), api.OK, row)
		set.Parts[1].Name = "changed"
		same(t, given, cored(), "shared memory")
	}
}

// setting has the arguments of Set.
type setting struct {
	r      rope.Rope
	parts  []int
	twists []api.Rat
}

func TestErrorsOfSet(t *testing.T) {
	var faults []fault[setting]
	add := func(e api.Errno, change func(s *setting)) { faults = append(faults, fault[setting]{change, e}) }
	add(api.ErrName, func(s *setting) { s.r.Name = "" })
	add(api.ErrMany, func(s *setting) { s.parts = make([]int, 65) })
	for _, part := range []int{6, -1, math.MinInt, math.MaxInt} {
		add(api.ErrUnknown, func(s *setting) { s.parts = []int{1, 2, part} })
		add(api.ErrUnknown, func(s *setting) { s.parts = []int{part, part, 7} })
	}
	add(api.ErrTwice, func(s *setting) { s.parts = []int{2, 1, 2} })
	add(api.ErrTwice, func(s *setting) { s.parts = []int{0, 0, 9} })
	add(api.ErrShape, func(s *setting) { s.twists = nil })
	add(api.ErrShape, func(s *setting) { s.twists = []api.Rat{"", "x"} })
	add(api.ErrShape, func(s *setting) { s.twists = []api.Rat{"1", "2", "3", "x"} })
	for _, bad := range badNumbers() {
		add(bad.e, func(s *setting) { s.twists = []api.Rat{"1", bad.text, "1"} })
	}
	add(api.ErrForm, func(s *setting) { s.twists = []api.Rat{"", "1", nines(601)} })
	good := func() setting { return setting{cored(), []int{3, 1, 2}, []api.Rat{"1", "2", "3"}} }
	checkFaults(t, good, faults, func(s setting) api.Errno {
		set, e := rope.Set(s.r, s.parts, s.twists)
		same(t, set.Name == "" && set.Parts == nil, e != api.OK, e)
		return e
	})
	_, e := rope.Set(cored(), nil, []api.Rat{"1"})
	same(t, e, api.ErrShape)
	all := bundle(slices.Repeat([]api.Rat{"1"}, 63)...)
	var parts []int
	for part := range all.Parts {
		parts = append(parts, part)
	}
	_, e = rope.Set(all, parts, slices.Repeat([]api.Rat{"1"}, 64))
	same(t, e, api.OK, "64 parts")
}

func TestMirror(t *testing.T) {
	source := seeded()
	ropes := []rope.Rope{laid(), cored(), chain(6, "1", "-1"), chain(1, nines(600))}
	for range 30 {
		ropes = append(ropes, randomRope(source, 30, 20))
	}
	for i, r := range ropes {
		given := withTwists(r, nil, nil)
		mirror, e := rope.Mirror(given)
		same(t, e, api.OK, i)
		wanted := withTwists(r, nil, nil)
		for k, p := range wanted.Parts {
			twist, negative := strings.CutPrefix(string(p.Twist), "-")
			if !negative && twist != "0" {
				twist = "-" + twist
			}
			wanted.Parts[k].Hand, wanted.Parts[k].Twist = -p.Hand, api.Rat(twist)
		}
		same(t, mirror, wanted, i)
		same(t, rope.CheckRope(mirror), api.OK, i)
		back, e := rope.Mirror(mirror)
		same(t, []any{back, e}, []any{r, api.OK}, i)
		mirror.Parts[0].Name = "changed"
		same(t, given, r, "shared memory")
	}
}
