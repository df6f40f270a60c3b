package splice_test

import (
	"math/big"
	"strconv"
	"testing"

	"becket/api"
	"becket/splice"
)

// The tests of P8.2.

func TestReplay(t *testing.T) {
	for _, example := range []struct {
		l     []splice.Tuck
		s     splice.State
		aside []splice.Refusal
	}{
		{nil, splice.State{Tucks: []int{0, 0, 0}, Gaps: []int{0, 1, 2}}, nil},
		{roundsOf(chapterRule(), 1), splice.State{Tucks: []int{1, 1, 1}, Gaps: []int{2, 0, 1}}, nil},
		{roundsOf(chapterRule(), 3), splice.State{Tucks: []int{3, 3, 3}, Gaps: []int{0, 1, 2}}, nil},
		{roundsOf(chapterRule(), 4), splice.State{Tucks: []int{3, 3, 3}, Gaps: []int{0, 1, 2}}, []splice.Refusal{{Number: 10, Rule: 1}, {Number: 11, Rule: 1}, {Number: 12, Rule: 1}}},
		{
			[]splice.Tuck{{Strand: 1, Over: 1, Under: 2}, {Strand: 1, Over: 1, Under: 1}, {Strand: 1, Over: 1, Under: 1}, {Strand: 2, Over: 1, Under: 1}, {Strand: 0}},
			splice.State{Tucks: []int{0, 1, 1}, Gaps: []int{0, 0, 1}}, []splice.Refusal{{Number: 1, Rule: 3}, {Number: 3, Rule: 2}, {Number: 5, Rule: 3}},
		},
	} {
		s, aside, e := splice.Replay(chapterRule(), example.l)
		sameResult(t, s, e, example.s, api.OK, example.l)
		same(t, aside, example.aside, example.l)
	}
	s, aside, e := splice.Replay(chapterRule(), repeated(256, splice.Tuck{Strand: 2, Over: 8, Under: 8}))
	sameResult(t, s, e, splice.State{Tucks: []int{0, 0, 0}, Gaps: []int{0, 1, 2}}, api.OK)
	same(t, len(aside), 256)
	same(t, aside[255], splice.Refusal{Number: 256, Rule: 3})
}

// The third example of the chapter, tuck by tuck.
func TestReplayWithTapers(t *testing.T) {
	four := splice.Rule{Strands: 4, Over: 1, Under: 2, Full: 2, Taper: 1}
	s, aside, e := splice.Replay(four, append(roundsOf(four, 2),
		splice.Tuck{Strand: 0, Over: 1, Under: 2}, splice.Tuck{Strand: 1, Over: 1, Under: 1}, splice.Tuck{Strand: 2, Over: 1, Under: 1}, splice.Tuck{Strand: 1, Over: 1, Under: 2}))
	sameResult(t, s, e, splice.State{Tucks: []int{3, 2, 3, 2}, Gaps: []int{1, 3, 2, 1}}, api.OK)
	same(t, aside, []splice.Refusal{{Number: 10, Rule: 4}, {Number: 12, Rule: 4}})
}

func TestSplicesOfMany(t *testing.T) {
	rules := map[int]int{}
	for _, x := range manySplicings() {
		tucks, gaps, refusals := replayIn(x.r, x.l)
		s, aside, e := splice.Replay(x.r, x.l)
		sameResult(t, s, e, splice.State{Tucks: tucks, Gaps: gaps}, api.OK, x)
		same(t, aside, refusals, x)
		for _, refusal := range aside {
			rules[refusal.Rule]++
		}
		lacking, code := lacksIn(x.r, x.s.Tucks)
		strand, e := splice.Lacks(x.r, x.s)
		sameResult(t, strand, e, lacking, code, x)
		least := holdIn(x.r, x.s.Tucks[0])
		for strand, tucks := range x.s.Tucks {
			hold := holdIn(x.r, tucks)
			got, e := splice.Hold(x.r, x.s, strand)
			sameResult(t, got, e, rat(hold), api.OK, x, strand)
			if hold.Cmp(least) < 0 {
				least = hold
			}
		}
		wanted, _ := stepIn(x.table, least)
		efficiency, e := splice.Efficiency(x.r, x.s, x.table)
		sameResult(t, efficiency, e, wanted, api.OK, x)
	}
	for rule := 1; rule <= 4; rule++ {
		same(t, rules[rule] > 50, true, "tucks refused by the rule", rule, rules)
	}
}

func TestLacks(t *testing.T) {
	for _, example := range []struct {
		tucks  []int
		strand int
		e      api.Errno
	}{
		{[]int{0, 0, 0}, 0, api.OK}, {[]int{3, 2, 2}, 1, api.OK}, {[]int{3, 3, 2}, 2, api.OK}, {[]int{2, 3, 3}, 0, api.OK}, {[]int{2, 1, 1}, 0, api.OK}, {[]int{3, 2, 3}, 1, api.OK},
		{[]int{3, 3, 3}, 0, api.ErrNone},
	} {
		strand, e := splice.Lacks(chapterRule(), splice.State{Tucks: example.tucks, Gaps: []int{0, 1, 2}})
		sameResult(t, strand, e, example.strand, example.e, example)
	}
}

func TestHold(t *testing.T) {
	r := splice.Rule{Strands: 2, Under: 1, Full: 20, Taper: 20}
	for tucks := range 41 {
		s := splice.State{Tucks: []int{tucks, max(tucks-1, 0)}, Gaps: []int{0, 1}}
		for strand := range 2 {
			hold, e := splice.Hold(r, s, strand)
			sameResult(t, hold, e, rat(holdIn(r, s.Tucks[strand])), api.OK, tucks, strand)
		}
	}
	for _, example := range []struct {
		r      splice.Rule
		tucks  int
		wanted api.Rat
	}{
		{chapterRule(), 0, "0"}, {chapterRule(), 2, "2"}, {chapterRule(), 3, "5/2"}, {splice.Rule{Strands: 3, Under: 1, Full: 1, Taper: 3}, 4, "15/8"},
		{splice.Rule{Strands: 3, Under: 1, Full: 1, Taper: 20}, 21, "2097151/1048576"},
	} {
		hold, e := splice.Hold(example.r, splice.State{Tucks: repeated(3, example.tucks), Gaps: []int{0, 1, 2}}, 1)
		sameResult(t, hold, e, example.wanted, api.OK, example)
	}
}

// The step is that of the least that a strand holds, whichever strand it is.
func TestEfficiency(t *testing.T) {
	for _, example := range []struct {
		tucks  []int
		table  []api.Point
		wanted api.Rat
		e      api.Errno
	}{
		{[]int{3, 3, 3}, chapterTable(), "4/5", api.OK}, {[]int{2, 2, 2}, chapterTable(), "4/5", api.OK}, {[]int{2, 1, 2}, chapterTable(), "1/2", api.OK}, {[]int{1, 2, 2}, chapterTable(), "1/2", api.OK},
		{[]int{3, 3, 2}, []api.Point{{X: "2", Y: "1/4"}, {X: "5/2", Y: "1/3"}}, "1/4", api.OK}, {[]int{3, 3, 3}, []api.Point{{X: "2", Y: "1/4"}, {X: "5/2", Y: "1/3"}}, "1/3", api.OK},
		{[]int{0, 0, 0}, []api.Point{{X: "0", Y: "0"}}, "0", api.OK}, {[]int{0, 0, 0}, []api.Point{{X: "-5", Y: "1"}}, "1", api.OK},
		{[]int{0, 0, 0}, []api.Point{{X: "-5", Y: "2"}, {X: "0", Y: "1/7"}, {X: "1", Y: "-1"}}, "1/7", api.OK},
		{[]int{1, 1, 1}, []api.Point{{X: "2", Y: "1/2"}}, "", api.ErrRange}, {[]int{2, 1, 2}, []api.Point{{X: "2", Y: "1/2"}}, "", api.ErrRange},
		{[]int{1, 1, 1}, []api.Point{{X: "0", Y: "-1/9"}, {X: "2", Y: "1/2"}}, "", api.ErrRange}, {[]int{1, 1, 1}, []api.Point{{X: "0", Y: "9/8"}, {X: "2", Y: "1/2"}}, "", api.ErrRange},
		{[]int{1, 1, 1}, []api.Point{{X: "0", Y: "-" + nines(600)}}, "", api.ErrRange},
	} {
		efficiency, e := splice.Efficiency(chapterRule(), splice.State{Tucks: example.tucks, Gaps: []int{0, 1, 2}}, example.table)
		sameResult(t, efficiency, e, example.wanted, example.e, example)
	}
}

func TestStrength(t *testing.T) {
	long := "1/" + nines(600)
	for _, example := range []struct {
		base   api.Rat
		l      []api.Rat
		wanted api.Rat
		e      api.Errno
	}{
		{"1000", []api.Rat{"4/5", "1/2"}, "400", api.OK}, {"7/3", nil, "7/3", api.OK}, {"7/3", []api.Rat{"1"}, "7/3", api.OK}, {"7/3", []api.Rat{"1/2", "0"}, "0", api.OK}, {"0", []api.Rat{"1/2"}, "0", api.OK},
		{"5", repeated(256, api.Rat("1")), "5", api.OK}, {nines(600), nil, nines(600), api.OK}, {nines(600), []api.Rat{long}, "1", api.OK}, {"1", []api.Rat{long}, long, api.OK},
		{"1", []api.Rat{long, "1/2"}, "", api.ErrLarge}, {long, []api.Rat{long}, "", api.ErrLarge}, {long, []api.Rat{long, "0"}, "0", api.OK}, {long, []api.Rat{long, long, long, "0"}, "0", api.OK},
		{"1/" + ten(599), []api.Rat{"1/10"}, "", api.ErrLarge}, {ten(599), repeated(256, api.Rat("1/10")), ten(343), api.OK},
	} {
		strength, e := splice.Strength(example.base, example.l)
		sameResult(t, strength, e, example.wanted, example.e, example)
	}
	for _, bad := range badAmounts() {
		strength, e := splice.Strength(bad.text, []api.Rat{"2"})
		sameResult(t, strength, e, api.Rat(""), bad.e, bad)
	}
	for _, bad := range append(badAmounts(), badNumber{"5/4", api.ErrRange}, badNumber{nines(600), api.ErrRange}, badNumber{ten(599) + "/" + nines(599), api.ErrRange}) {
		for _, l := range [][]api.Rat{{bad.text}, {"1", bad.text}, {"1/2", bad.text, "2/4"}, {bad.text, "2", nines(601)}} {
			strength, e := splice.Strength("1", l)
			sameResult(t, strength, e, api.Rat(""), bad.e, l)
		}
	}
	for _, l := range [][]api.Rat{repeated(257, api.Rat("1")), repeated(257, api.Rat("x")), repeated(100000, api.Rat("2"))} {
		strength, e := splice.Strength("1", l)
		sameResult(t, strength, e, api.Rat(""), api.ErrMany, len(l))
		_, e = splice.Strength("-1", l)
		same(t, e, api.ErrRange, len(l))
	}
}

func TestStrengthOfMany(t *testing.T) {
	source := seeded()
	for i := range 300 {
		base := randomRat(source, 1+i%300)
		wanted := base
		var l []api.Rat
		for range source.Intn(5) {
			reduction := randomRat(source, 1+i%200)
			if reduction.Cmp(ratio(1, 1)) > 0 {
				reduction.Inv(reduction)
			}
			l = append(l, rat(reduction))
			wanted = times(wanted, reduction)
		}
		strength, e := splice.Strength(rat(base), l)
		sameLimited(t, strength, e, wanted, base, l)
	}
}

// What is on the way has up to 76000 digits: the numerator of each reduction is the denominator of one that comes much later.
func TestStrengthHasNoLimitOnTheWay(t *testing.T) {
	number := func(i int) *big.Rat { return plus(value(ten(599)), ratio(2*i+1, 1)) }
	l := make([]api.Rat, 254)
	for i := range 127 {
		l[i] = rat(over(number(2*i), number(2*i+1)))
		l[i+127] = rat(over(number(2*i+1), number(2*i+2)))
	}
	strength, e := splice.Strength("1", l)
	sameLimited(t, strength, e, over(number(0), number(254)))
}

func TestErrorsOfSplices(t *testing.T) {
	var faultsOfLists []fault[splicing]
	add := func(e api.Errno, l ...splice.Tuck) {
		faultsOfLists = append(faultsOfLists, fault[splicing]{func(x *splicing) { x.l = l }, e})
	}
	add(api.ErrMany, repeated(257, splice.Tuck{Over: 1, Under: 1})...)
	add(api.ErrMany, repeated(100000, splice.Tuck{Strand: 3})...)
	for _, bad := range badTucks() {
		add(bad.e, bad.t)
		add(bad.e, splice.Tuck{Over: 8, Under: 8}, bad.t, splice.Tuck{Strand: 3})
		add(bad.e, splice.Tuck{Over: 8, Under: 8}, bad.t, splice.Tuck{Over: 9})
	}
	checkFaults(t, chapterSplicing, append(faultsOfRules(), faultsOfLists...), func(x splicing) api.Errno {
		s, aside, e := splice.Replay(x.r, x.l)
		same(t, len(s.Tucks)+len(s.Gaps) > 0, e == api.OK)
		same(t, len(aside), 0)
		return e
	})
	complete := fault[splicing]{func(x *splicing) { x.s.Tucks = []int{3, 3, 3}; x.s.Gaps = []int{0, 1, 2} }, api.ErrNone}
	checkFaults(t, chapterSplicing, append(faultsOfStates(), complete), func(x splicing) api.Errno {
		strand, e := splice.Lacks(x.r, x.s)
		same(t, strand, 0)
		return e
	})
	faultsOfStrands := faultsOfStates()
	for _, wrong := range append(extremes(), 3) {
		faultsOfStrands = append(faultsOfStrands, fault[splicing]{func(x *splicing) { x.strand = wrong }, api.ErrUnknown})
	}
	checkFaults(t, chapterSplicing, faultsOfStrands, func(x splicing) api.Errno {
		hold, e := splice.Hold(x.r, x.s, x.strand)
		same(t, hold != "", e == api.OK)
		return e
	})
}

func TestErrorsOfEfficiency(t *testing.T) {
	many := make([]api.Point, 65)
	for i := range many {
		many[i] = api.Point{X: api.Rat(strconv.Itoa(i)), Y: "1"}
	}
	faults := faultsOfStates()
	add := func(e api.Errno, table ...api.Point) {
		faults = append(faults, fault[splicing]{func(x *splicing) { x.table = table }, e})
	}
	add(api.ErrEmpty)
	add(api.ErrMany, many...)
	add(api.ErrMany, make([]api.Point, 100000)...)
	for _, bad := range badNumbers() {
		add(bad.e, api.Point{X: bad.text, Y: "1"})
		add(bad.e, api.Point{X: "0", Y: "7"}, api.Point{X: "1", Y: bad.text})
	}
	add(api.ErrOrder, api.Point{X: "1", Y: "7"}, api.Point{X: "1", Y: "1"})
	add(api.ErrOrder, api.Point{X: "1", Y: "7"}, api.Point{X: "1/2", Y: "1"}, api.Point{X: "2", Y: "x"})
	add(api.ErrRange, api.Point{X: "1", Y: "1"})
	add(api.ErrRange, api.Point{X: "0", Y: "7"})
	checkFaults(t, chapterSplicing, faults, func(x splicing) api.Errno {
		efficiency, e := splice.Efficiency(x.r, x.s, x.table)
		same(t, efficiency != "", e == api.OK)
		return e
	})
}
