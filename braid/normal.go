package braid

import (
	"slices"

	"becket/api"
	"becket/check"
	"becket/lists"
	"becket/number"
)

// Form is the normal form of a braid: a power of the half twist, and the permutations of simple braids.
type Form struct {
	Half    int
	Factors [][]int
}

// simple is a simple braid, by its permutation.
type simple []int

// product is a power of the half twist, and simple braids behind it, as in a normal form.
type product struct {
	strands int
	half    int
	factors []simple
}

// Simple returns the word of a simple braid.
func Simple(n int, p []int) ([]int, api.Errno) {
	if e := check.First(checkStrands(n), checkPerm(n, p)); e != api.OK {
		return nil, e
	}
	return simple(p).word(), api.OK
}

// CheckForm returns the first error of a normal form, or OK.
func CheckForm(n int, f Form) api.Errno {
	e := check.First(
		checkStrands(n),
		check.Range(f.Half, -api.MaxWord, api.MaxWord),
		check.That(n > 1 || f.Half == 0, api.ErrRange),
		check.That(len(f.Factors) <= api.MaxWord, api.ErrMany),
	)
	if e != api.OK {
		return e
	}
	before := halfTwist(n) // ends with all letters
	return check.Each(f.Factors, func(p []int) api.Errno {
		e := checkFactor(n, before, p)
		before = p
		return e
	})
}

// Normal returns the normal form of a word.
func Normal(n int, w []int) (Form, api.Errno) {
	if e := CheckWord(n, w); e != api.OK {
		return Form{}, e
	}
	p := product{strands: n}
	for at, sign := range letters(w) {
		p.times(at, sign)
	}
	return Form{p.half, lists.Map(p.factors, func(s simple) []int { return s })}, api.OK
}

// Spell returns the word of a normal form.
func Spell(n int, f Form) ([]int, api.Errno) {
	if e := CheckForm(n, f); e != api.OK {
		return nil, e
	}
	twist := halfTwist(n).word()
	if f.Half < 0 {
		twist = inverted(twist)
	}
	words := slices.Repeat([][]int{twist}, sizeOf(f.Half))
	for _, factor := range f.Factors {
		words = append(words, simple(factor).word())
	}
	return limited(slices.Concat(words...))
}

// Equal reports whether two words are equal braids.
func Equal(n int, a, b []int) (bool, api.Errno) {
	formOfA, errorOfA := Normal(n, a)
	formOfB, errorOfB := Normal(n, b)
	if e := check.First(errorOfA, errorOfB); e != api.OK {
		return false, e
	}
	return sameForm(formOfA, formOfB), api.OK
}

func sameForm(a, b Form) bool {
	return a.Half == b.Half && sameRows(a.Factors, b.Factors)
}

// checkPerm returns the error of a permutation of n places.
func checkPerm(n int, p []int) api.Errno {
	return check.First(check.That(len(p) == n, api.ErrShape), number.CheckPerm(p))
}

// checkFactor returns the error of a factor of a normal form behind another one.
func checkFactor(n int, before simple, p []int) api.Errno {
	if e := checkPerm(n, p); e != api.OK {
		return e
	}
	if slices.Equal(p, lists.Numbers(n)) || slices.Equal(p, halfTwist(n)) {
		return api.ErrForm
	}
	_, found := misplaced(before, p)
	return check.That(!found, api.ErrForm)
}

// misplaced returns the place of the least letter with which a simple braid begins, but the one before it does not end;
// it tells whether there is one.
func misplaced(before, next simple) (int, bool) {
	ends := before.ends()
	for at, begins := range next.begins() {
		if begins && !ends[at] {
			return at, true
		}
	}
	return 0, false
}

func halfTwist(n int) simple {
	return lists.Reversed(lists.Numbers(n))
}

// begins tells for each place whether the strands that begin there and at the next place cross.
func (s simple) begins() [api.MaxStrands]bool {
	var cross [api.MaxStrands]bool
	for at := range len(s) - 1 {
		cross[at] = s[at] > s[at+1]
	}
	return cross
}

// ends tells for each place whether the strands that end there and at the next place cross.
func (s simple) ends() [api.MaxStrands]bool {
	inverse := make(simple, len(s))
	for begin, end := range s {
		inverse[end] = begin
	}
	return inverse.begins()
}

// flipped returns the simple braid with its strands numbered from the right.
func (s simple) flipped() simple {
	last := len(s) - 1
	return lists.Reversed(lists.Map(s, func(end int) int { return last - end }))
}

// word returns the word of a simple braid.
func (s simple) word() []int {
	var word []int
	ends := slices.Clone(s)
	for at := 0; at+1 < len(ends); at++ {
		if ends[at] > ends[at+1] {
			lists.Exchange(ends, at)
			word = append(word, at+1)
			at = -1 // for the next letter is the least one again
		}
	}
	return word
}

// times multiplies a product by the letter at a place with a sign.
func (p *product) times(at, sign int) {
	letter := simple(lists.Numbers(p.strands))
	if sign < 0 {
		// The letter is the inverse of the half twist, and then the half twist without this letter at its end. A half
		// twist comes to the left of factors if they are flipped.
		p.half--
		p.factors = lists.Map(p.factors, simple.flipped)
		letter, at = halfTwist(p.strands), p.strands-2-at
	}
	lists.Exchange(letter, at)
	p.factors = append(p.factors, letter)
	p.arrange()
	p.trim()
}

// arrange puts the factors in order, where all but the last one are in order. It goes from right to left once, for what
// is pushed out of a factor leaves it in order with the one behind it.
func (p *product) arrange() {
	push := func(to, at int) {
		left, right := p.factors[to], p.factors[to+1]
		first, second := slices.Index(left, at), slices.Index(left, at+1)
		left[first], left[second] = at+1, at
		lists.Exchange(right, at)
	}
search:
	for to := len(p.factors) - 2; to >= 0; to-- {
		for {
			at, found := misplaced(p.factors[to], p.factors[to+1])
			if !found {
				continue search
			}
			push(to, at)
		}
	}
}

// trim takes half twists and factors without crossings, which stand first and last, away from the factors.
func (p *product) trim() {
	for len(p.factors) > 0 && slices.Equal(p.factors[0], halfTwist(p.strands)) {
		p.half++
		p.factors = p.factors[1:]
	}
	for last := len(p.factors) - 1; last >= 0 && slices.Equal(p.factors[last], lists.Numbers(p.strands)); last-- {
		p.factors = p.factors[:last]
	}
}
