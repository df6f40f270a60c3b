package plait_test

import (
	"slices"
	"testing"

	"becket/api"
	"becket/plait"
)

// The tests of P7.3.

func TestCheckPasses(t *testing.T) {
	for _, good := range []lacing{
		{n: 2}, {n: 12}, {n: 3, l: chapterPasses()}, {n: 12, l: []plait.Pass{{From: 12, To: 1, Way: "ouououououo"}, {From: 1, To: 12, Way: "uuuuuuuuuuu"}}},
		{n: 2, l: repeated(1000, plait.Pass{From: 2, To: 1, Way: "u"})}, {n: 12, l: repeated(1000, plait.Pass{From: 12, To: 11, Way: "o"})},
	} {
		same(t, plait.CheckPasses(good.n, good.l), api.OK, good)
	}
	for i, bad := range listsOfBadPasses() {
		same(t, plait.CheckPasses(bad.n, bad.l), bad.e, i, bad.n)
	}
}

// Each byte but those of o and u is an error of a way.
func TestBytesOfWays(t *testing.T) {
	for letter := range 256 {
		wanted := api.ErrForm
		if letter == 'o' || letter == 'u' {
			wanted = api.OK
		}
		same(t, plait.CheckPasses(2, []plait.Pass{{From: 1, To: 2, Way: string([]byte{byte(letter)})}}), wanted, letter)
	}
}

func TestErrorsOfPasses(t *testing.T) {
	for i, bad := range listsOfBadPasses() {
		w, e := plait.Word(bad.n, bad.l)
		sameResult(t, w, e, []int{}, bad.e, i)
		back, e := plait.Back(bad.n, bad.l)
		sameResult(t, back, e, []plait.Pass{}, bad.e, i)
		count, e := plait.Repeat(bad.n, bad.l)
		sameResult(t, count, e, api.Rat(""), bad.e, i)
	}
}

func TestErrorsOfWords(t *testing.T) {
	for i, bad := range badWords() {
		l, e := plait.Passes(bad.n, bad.w)
		sameResult(t, l, e, []plait.Pass{}, bad.e, i)
		crosses, e := plait.Crosses(bad.n, bad.w)
		sameResult(t, crosses, e, []plait.Cross{}, bad.e, i)
		strand, e := plait.Alternates(bad.n, bad.w)
		sameResult(t, strand, e, 0, bad.e, i)
	}
}

func TestWord(t *testing.T) {
	for _, example := range []struct {
		n      int
		l      []plait.Pass
		wanted []int
	}{
		{3, chapterPasses(), []int{1, -2}}, {3, nil, nil}, {5, []plait.Pass{{From: 5, To: 2, Way: "uou"}}, []int{4, -3, 2}}, {4, []plait.Pass{{From: 1, To: 4, Way: "oou"}}, []int{1, 2, -3}},
		{4, []plait.Pass{{From: 1, To: 3, Way: "ou"}, {From: 4, To: 2, Way: "ou"}}, []int{1, -2, -3, 2}}, {2, []plait.Pass{{From: 2, To: 1, Way: "o"}, {From: 2, To: 1, Way: "u"}}, []int{-1, 1}},
	} {
		w, e := plait.Word(example.n, example.l)
		sameResult(t, w, e, example.wanted, api.OK, example)
	}
	for _, x := range manyLacings() {
		w, e := plait.Word(x.n, x.l)
		sameResult(t, w, e, wordIn(x.l), api.OK, x.n, x.l)
	}
}

func TestTheGreatestWord(t *testing.T) {
	long := plait.Pass{From: 1, To: 12, Way: "oooooooooou"}
	l := append(repeated(18, long), plait.Pass{From: 3, To: 1, Way: "ou"}) // 18 times 11 letters, and 2 more
	w, e := plait.Word(12, l)
	sameResult(t, w, e, wordIn(l), api.OK)
	same(t, len(w), 200)
	for _, more := range [][]plait.Pass{append(l, plait.Pass{From: 1, To: 2, Way: "o"}), repeated(19, long), repeated(1000, long), repeated(201, plait.Pass{From: 1, To: 2, Way: "o"})} {
		w, e = plait.Word(12, more)
		sameResult(t, w, e, []int{}, api.ErrMany, len(more))
	}
}

func TestBack(t *testing.T) {
	for _, example := range []struct {
		n         int
		l, wanted []plait.Pass
	}{
		{3, chapterPasses(), []plait.Pass{{From: 2, To: 3, Way: "o"}, {From: 2, To: 1, Way: "o"}}}, {3, nil, nil},
		{5, []plait.Pass{{From: 1, To: 4, Way: "oou"}, {From: 5, To: 3, Way: "uo"}}, []plait.Pass{{From: 3, To: 5, Way: "ou"}, {From: 4, To: 1, Way: "uoo"}}},
	} {
		l, e := plait.Back(example.n, example.l)
		sameResult(t, l, e, example.wanted, api.OK, example)
	}
	for _, x := range manyLacings() {
		back, e := plait.Back(x.n, x.l)
		same(t, e, api.OK, x)
		same(t, len(back), len(x.l), x)
		for i, p := range back {
			other := x.l[len(x.l)-1-i]
			way := []byte(other.Way)
			slices.Reverse(way)
			same(t, p, plait.Pass{From: other.To, To: other.From, Way: string(way)}, x)
		}
	}
	l, e := plait.Back(2, repeated(1000, plait.Pass{From: 1, To: 2, Way: "u"})) // with more letters than a word
	sameResult(t, l, e, repeated(1000, plait.Pass{From: 2, To: 1, Way: "u"}), api.OK)
}

func TestPasses(t *testing.T) {
	for _, example := range []struct {
		n      int
		w      []int
		wanted []plait.Pass
	}{
		{3, nil, nil}, {1, nil, nil}, {12, nil, nil}, {3, []int{1, 2}, []plait.Pass{{From: 1, To: 3, Way: "oo"}}}, {3, []int{1, -2}, []plait.Pass{{From: 1, To: 3, Way: "ou"}}},
		{3, []int{2, 1}, []plait.Pass{{From: 3, To: 1, Way: "uu"}}}, {3, []int{-2}, []plait.Pass{{From: 2, To: 3, Way: "u"}}}, {3, []int{1, 1}, []plait.Pass{{From: 1, To: 2, Way: "o"}, {From: 1, To: 2, Way: "o"}}},
		{4, []int{3, -2, 1, 3}, []plait.Pass{{From: 4, To: 1, Way: "uou"}, {From: 3, To: 4, Way: "o"}}}, {4, []int{1, 3}, []plait.Pass{{From: 1, To: 2, Way: "o"}, {From: 3, To: 4, Way: "o"}}},
		{3, []int{1, 2, 1}, []plait.Pass{{From: 1, To: 3, Way: "oo"}, {From: 1, To: 2, Way: "o"}}}, {4, []int{2, 1, 2, 3}, []plait.Pass{{From: 3, To: 1, Way: "uu"}, {From: 2, To: 4, Way: "oo"}}},
		{4, []int{-3, -2, -1}, []plait.Pass{{From: 4, To: 1, Way: "ooo"}}}, {12, []int{11, 10, 11}, []plait.Pass{{From: 12, To: 10, Way: "uu"}, {From: 11, To: 12, Way: "o"}}},
	} {
		l, e := plait.Passes(example.n, example.w)
		sameResult(t, l, e, example.wanted, api.OK, example)
	}
	for _, x := range manyLacings() {
		l, e := plait.Passes(x.n, x.w)
		sameResult(t, l, e, passesIn(x.n, x.w), api.OK, x.n, x.w)
	}
}

func TestCrosses(t *testing.T) {
	for _, example := range []struct {
		n      int
		w      []int
		wanted []plait.Cross
	}{
		{3, []int{1, -2}, []plait.Cross{{Over: 1, Under: 2}, {Over: 3, Under: 1}}}, {3, nil, nil}, {1, nil, nil}, {2, []int{-1}, []plait.Cross{{Over: 2, Under: 1}}},
		{2, []int{1, 1}, []plait.Cross{{Over: 1, Under: 2}, {Over: 2, Under: 1}}}, {12, []int{11, 10}, []plait.Cross{{Over: 11, Under: 12}, {Over: 10, Under: 12}}},
	} {
		crosses, e := plait.Crosses(example.n, example.w)
		sameResult(t, crosses, e, example.wanted, api.OK, example)
	}
	for _, x := range manyLacings() {
		crosses, e := plait.Crosses(x.n, x.w)
		sameResult(t, crosses, e, crossesIn(x.n, x.w), api.OK, x.n, x.w)
	}
}

func TestAlternates(t *testing.T) {
	for _, example := range []struct {
		n      int
		w      []int
		wanted int
	}{
		{3, []int{1, -2}, 0}, {3, []int{1, 2}, 1}, {3, nil, 0}, {1, nil, 0}, {3, []int{-1, -2}, 1}, {2, []int{1, 1}, 0}, {2, []int{1, -1}, 1}, {3, []int{2, -1}, 0}, {3, []int{-2, -1}, 3}, {3, []int{2, 1}, 3},
		{4, []int{1, 3, 3, -3}, 3}, {4, []int{3, 2, 3}, 2}, {12, []int{11, 10}, 12}, {3, []int{1, -2, 1, -2, 1, -2}, 0}, {4, []int{1, 3, -2, 1, 3, -2}, 0},
		{4, []int{1, 3, -2, 1, 3, 2}, 2}, {5, []int{1, 1, 1, 1, 4, -4}, 4},
	} {
		strand, e := plait.Alternates(example.n, example.w)
		sameResult(t, strand, e, example.wanted, api.OK, example)
	}
	found := map[int]int{}
	for _, x := range manyLacings() {
		wanted := alternatesIn(x.n, crossesIn(x.n, x.w))
		found[wanted]++
		strand, e := plait.Alternates(x.n, x.w)
		sameResult(t, strand, e, wanted, api.OK, x.n, x.w)
	}
	same(t, len(found) > 4, true, found)
}
