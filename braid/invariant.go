package braid

import (
	"slices"

	"becket/api"
	"becket/check"
	"becket/lists"
	"becket/number"
)

// invariant is a kind of invariants, and tells whether two words have the same one.
type invariant struct {
	kind string
	same func(n int, a, b []int) bool
}

// Link returns the linking numbers of the strands.
func Link(n int, w []int) ([][]int, api.Errno) {
	if e := CheckWord(n, w); e != api.OK {
		return nil, e
	}
	numbers := make([][]int, n)
	for strand := range numbers {
		numbers[strand] = make([]int, n)
	}
	strands := lists.Numbers(n)
	for at, sign := range letters(w) {
		left, right := strands[at], strands[at+1]
		numbers[left][right] += sign
		numbers[right][left] += sign
		lists.Exchange(strands, at)
	}
	return numbers, api.OK
}

// Free returns the images of the generators of the free group.
func Free(n int, w []int) ([][]int, api.Errno) {
	if e := check.First(CheckWord(n, w), check.That(len(w) <= MaxFree, api.ErrLimit)); e != api.OK {
		return nil, e
	}
	var images [][]int
	for strand := range n {
		images = append(images, []int{strand + 1})
	}
	for at, sign := range letters(w) {
		x, y := images[at], images[at+1]
		if sign > 0 {
			images[at], images[at+1] = reduced(x, y, inverted(x)), x
		} else {
			images[at], images[at+1] = y, reduced(inverted(y), x, y)
		}
	}
	return images, api.OK
}

// Components returns the components of the closure of a word.
func Components(n int, w []int) ([][]int, api.Errno) {
	perm, e := Perm(n, w)
	if e != api.OK {
		return nil, e
	}
	return number.Cycles(perm)
}

// Refute returns the first kind of invariants in which two words differ.
func Refute(n int, a, b []int) (string, api.Errno) {
	if e := checkWords(n, a, b); e != api.OK {
		return "", e
	}
	return difference(n, a, b, invariants()...)
}

// CheckRefute returns OK for a kind of invariants in which two words differ.
func CheckRefute(n int, a, b []int, kind string) api.Errno {
	if e := checkWords(n, a, b); e != api.OK {
		return e
	}
	all := invariants()
	at := slices.IndexFunc(all, func(i invariant) bool { return i.kind == kind })
	if at < 0 {
		return api.ErrKind
	}
	_, e := difference(n, a, b, all[at])
	return check.That(e == api.OK, api.ErrProof)
}

// invariants returns the kinds of invariants, in their order.
func invariants() []invariant {
	burauAtTwo := func(n int, w []int) ([][]api.Rat, api.Errno) { return Burau(n, w, "2") }
	return []invariant{
		{"exponent", sameOf(Exponent, func(a, b int) bool { return a == b })},
		{"perm", sameOf(Perm, slices.Equal)},
		{"link", sameOf(Link, sameRows)},
		{"burau", sameOf(burauAtTwo, sameRows)},
		{"form", sameOf(Normal, sameForm)},
	}
}

// sameOf returns a function that tells whether two words, which have been checked, have the same value.
func sameOf[T any](valueOf func(n int, w []int) (T, api.Errno), same func(a, b T) bool) func(n int, a, b []int) bool {
	return func(n int, a, b []int) bool {
		x, _ := valueOf(n, a)
		y, _ := valueOf(n, b)
		return same(x, y)
	}
}

func sameRows[T comparable](a, b [][]T) bool {
	return slices.EqualFunc(a, b, slices.Equal)
}

// difference returns the first of some kinds in which two words differ, or ErrNone.
func difference(n int, a, b []int, list ...invariant) (string, api.Errno) {
	for _, i := range list {
		if !i.same(n, a, b) {
			return i.kind, api.OK
		}
	}
	return "", api.ErrNone
}
