package splice_test

import (
	"slices"
	"testing"

	"becket/api"
	"becket/splice"
)

// The tests of P8.1.

func TestCheckRule(t *testing.T) {
	for _, r := range []splice.Rule{
		chapterRule(), {Strands: 2, Under: 1, Full: 1}, {Strands: 2, Over: 1, Under: 1, Full: 20, Taper: 20}, {Strands: 8, Over: 7, Under: 7, Full: 1, Taper: 20},
		{Strands: 8, Under: 1, Full: 20}, {Strands: 3, Over: 2, Under: 2, Full: 1}, {Strands: 4, Over: 1, Under: 2, Full: 2, Taper: 1},
	} {
		same(t, splice.CheckRule(r), api.OK, r)
	}
	for _, bad := range badRules() {
		same(t, splice.CheckRule(bad), api.ErrRange, bad)
	}
}

func TestStart(t *testing.T) {
	for strands := 2; strands <= 8; strands++ {
		r := splice.Rule{Strands: strands, Over: 1, Under: 1, Full: 3}
		wanted := splice.State{Tucks: make([]int, strands), Gaps: []int{0, 1, 2, 3, 4, 5, 6, 7}[:strands]}
		s, e := splice.Start(r)
		sameResult(t, s, e, wanted, api.OK, r)
	}
	for _, bad := range badRules() {
		s, e := splice.Start(bad)
		sameResult(t, s, e, splice.State{}, api.ErrRange, bad)
	}
}

func TestCheckState(t *testing.T) {
	for _, s := range []splice.State{
		{Tucks: []int{0, 0, 0}, Gaps: []int{0, 1, 2}}, {Tucks: []int{3, 3, 3}, Gaps: []int{2, 0, 1}}, {Tucks: []int{2, 3, 2}, Gaps: []int{1, 1, 0}},
		{Tucks: []int{0, 1, 1}, Gaps: []int{2, 1, 2}}, {Tucks: []int{3, 2, 2}, Gaps: []int{0, 0, 2}}, chapterSplicing().s,
	} {
		same(t, splice.CheckState(chapterRule(), s), api.OK, s)
	}
	for _, bad := range badStates() {
		same(t, splice.CheckState(chapterRule(), bad.s), bad.e, bad.s)
	}
}

// lists returns all lists with so many numbers from one to another.
func lists(length, least, most int) [][]int {
	list := [][]int{nil}
	for range length {
		var longer [][]int
		for _, start := range list {
			for x := least; x <= most; x++ {
				longer = append(longer, append(slices.Clone(start), x))
			}
		}
		list = longer
	}
	return list
}

// All states of few strands, those out of range included, with all tucks.
func TestAllStates(t *testing.T) {
	for _, r := range []splice.Rule{
		{Strands: 2, Over: 1, Under: 1, Full: 1, Taper: 1}, {Strands: 2, Under: 1, Full: 2}, {Strands: 3, Over: 1, Under: 2, Full: 1, Taper: 1}, {Strands: 3, Over: 2, Under: 1, Full: 1},
	} {
		for _, tucks := range lists(r.Strands, -1, r.Full+r.Taper+1) {
			for _, gaps := range lists(r.Strands, -1, r.Strands) {
				s := splice.State{Tucks: tucks, Gaps: gaps}
				e := errorOfStateIn(r, s)
				same(t, splice.CheckState(r, s), e, r, s)
				if e == api.OK {
					checkAllTucks(t, r, s)
				}
			}
		}
	}
}

// checkAllTucks compares Legal and Next with the model, for tucks over and under up to 4 strands.
func checkAllTucks(t *testing.T, r splice.Rule, s splice.State) {
	t.Helper()
	for strand := range r.Strands {
		for over := range 5 {
			for under := range 5 {
				checkTuck(t, r, s, splice.Tuck{Strand: strand, Over: over, Under: under})
			}
		}
	}
}

func checkTuck(t *testing.T, r splice.Rule, s splice.State, tuck splice.Tuck) {
	t.Helper()
	wanted := ruleIn(r, s.Tucks, s.Gaps, tuck)
	rule, e := splice.Legal(r, s, tuck)
	sameResult(t, rule, e, wanted, api.OK, r, s, tuck)
	after, code := splice.State{}, api.ErrRule
	if wanted == 0 {
		after, code = splice.State{Tucks: slices.Clone(s.Tucks), Gaps: slices.Clone(s.Gaps)}, api.OK
		after.Tucks[tuck.Strand]++
		after.Gaps[tuck.Strand] = gapIn(r, s.Gaps[tuck.Strand], tuck)
	}
	next, e := splice.Next(r, s, tuck)
	sameResult(t, next, e, after, code, r, s, tuck)
}

func TestTucksOfMany(t *testing.T) {
	for _, x := range manySplicings() {
		same(t, splice.CheckState(x.r, x.s), api.OK, x)
		for _, tuck := range append(x.l[:min(12, len(x.l))], x.t) {
			checkTuck(t, x.r, x.s, tuck)
		}
	}
}

func TestTucksOfTheChapter(t *testing.T) {
	s, _ := splice.Start(chapterRule())
	s, e := splice.Next(chapterRule(), s, splice.Tuck{Over: 1, Under: 1})
	sameResult(t, s, e, splice.State{Tucks: []int{1, 0, 0}, Gaps: []int{2, 1, 2}}, api.OK)
	four := splice.Rule{Strands: 4, Over: 1, Under: 2, Full: 2, Taper: 1}
	later := splice.State{Tucks: []int{3, 2, 2, 2}, Gaps: []int{1, 3, 0, 1}}
	for _, example := range []struct {
		r    splice.Rule
		s    splice.State
		t    splice.Tuck
		rule int
	}{
		{chapterRule(), s, splice.Tuck{Strand: 0, Over: 1, Under: 1}, 2}, {chapterRule(), s, splice.Tuck{Strand: 1, Over: 2, Under: 1}, 3},
		{chapterRule(), s, splice.Tuck{Strand: 1, Over: 1, Under: 2}, 3}, {chapterRule(), s, splice.Tuck{Strand: 1, Over: 0, Under: 1}, 3}, {chapterRule(), s, splice.Tuck{Strand: 1, Over: 1}, 3},
		{chapterRule(), s, splice.Tuck{Strand: 1, Over: 8, Under: 8}, 3}, {chapterRule(), s, splice.Tuck{Strand: 1, Over: 1, Under: 1}, 0}, {chapterRule(), s, splice.Tuck{Strand: 2, Over: 1, Under: 1}, 0},
		{chapterRule(), splice.State{Tucks: []int{3, 3, 3}, Gaps: []int{0, 1, 2}}, splice.Tuck{Strand: 1, Over: 7}, 1},
		{chapterRule(), splice.State{Tucks: []int{3, 2, 2}, Gaps: []int{0, 1, 2}}, splice.Tuck{Strand: 0, Over: 7}, 1},
		{chapterRule(), splice.State{Tucks: []int{2, 1, 1}, Gaps: []int{0, 1, 2}}, splice.Tuck{Strand: 0, Over: 7}, 2},
		{four, later, splice.Tuck{Strand: 1, Over: 1, Under: 1}, 4}, {four, later, splice.Tuck{Strand: 1, Over: 1, Under: 2}, 0}, {four, later, splice.Tuck{Strand: 1, Over: 1, Under: 3}, 3},
		{four, later, splice.Tuck{Strand: 2, Over: 1, Under: 1}, 0}, {four, later, splice.Tuck{Strand: 2, Over: 1}, 3}, {four, later, splice.Tuck{Strand: 2, Over: 2, Under: 1}, 3},
		{four, splice.State{Tucks: []int{2, 1, 1, 1}, Gaps: []int{1, 3, 0, 1}}, splice.Tuck{Strand: 1, Over: 1, Under: 1}, 3},
	} {
		rule, e := splice.Legal(example.r, example.s, example.t)
		sameResult(t, rule, e, example.rule, api.OK, example)
	}
}

func TestErrorsOfTucks(t *testing.T) {
	checkFaults(t, chapterSplicing, faultsOfStates(), func(x splicing) api.Errno { return splice.CheckState(x.r, x.s) })
	checkFaults(t, chapterSplicing, faultsOfTucks(), func(x splicing) api.Errno {
		rule, e := splice.Legal(x.r, x.s, x.t)
		same(t, rule, 0)
		return e
	})
	refused := fault[splicing]{func(x *splicing) { x.t.Strand = 0 }, api.ErrRule}
	checkFaults(t, chapterSplicing, append(faultsOfTucks(), refused), func(x splicing) api.Errno {
		s, e := splice.Next(x.r, x.s, x.t)
		same(t, len(s.Tucks)+len(s.Gaps) > 0, e == api.OK)
		return e
	})
}
