package braid_test

import (
	"math"
	"slices"
	"testing"

	"becket/api"
	"becket/braid"
)

// The tests of P5.4.

func insertion(at, letter int) braid.Move { return braid.Move{Kind: "insert", At: at, Letter: letter} }
func cancel(at int) braid.Move            { return braid.Move{Kind: "cancel", At: at} }
func swap(at int) braid.Move              { return braid.Move{Kind: "swap", At: at} }
func turn(at int) braid.Move              { return braid.Move{Kind: "turn", At: at} }

func TestMovedOfExamples(t *testing.T) {
	for _, example := range []struct {
		w      []int
		m      braid.Move
		wanted []int
		e      api.Errno
	}{
		{[]int{1, 2, 1}, turn(0), []int{2, 1, 2}, api.OK}, {[]int{1, 2, -1}, turn(0), []int{-2, 1, 2}, api.OK}, {[]int{-2, 1, 2}, turn(0), []int{1, 2, -1}, api.OK},
		{[]int{-1, -2, 1}, turn(0), []int{2, -1, -2}, api.OK}, {[]int{1, -2, 1}, turn(0), nil, api.ErrRule}, {[]int{1, 3, 1}, turn(0), nil, api.ErrRule},
		{[]int{1, 1, 1}, turn(0), nil, api.ErrRule}, {[]int{1, 2, 3}, turn(0), nil, api.ErrRule}, {[]int{3, 1, 2, 1, 3}, turn(1), []int{3, 2, 1, 2, 3}, api.OK},
		{[]int{1, 2}, turn(0), nil, api.ErrRange}, {[]int{1, 2, 1}, turn(1), nil, api.ErrRange}, {[]int{1, 2, 1}, turn(-1), nil, api.ErrRange},
		{[]int{1, 3}, swap(0), []int{3, 1}, api.OK}, {[]int{2, 1, -3}, swap(1), []int{2, -3, 1}, api.OK}, {[]int{1, 2}, swap(0), nil, api.ErrRule},
		{[]int{1, 1}, swap(0), nil, api.ErrRule}, {[]int{1, -1}, swap(0), nil, api.ErrRule}, {[]int{1, -2}, swap(0), nil, api.ErrRule}, {[]int{-2, -3}, swap(0), nil, api.ErrRule},
		{[]int{1, 3}, swap(1), nil, api.ErrRange}, {[]int{1, 3}, swap(2), nil, api.ErrRange}, {[]int{1, 3}, swap(3), nil, api.ErrRange},
		{[]int{1}, insertion(1, 2), []int{1, 2, -2}, api.OK}, {[]int{1}, insertion(0, -3), []int{-3, 3, 1}, api.OK}, {nil, insertion(0, 1), []int{1, -1}, api.OK},
		{[]int{1}, insertion(2, 2), nil, api.ErrRange}, {[]int{1}, insertion(-1, 2), nil, api.ErrRange}, {[]int{1}, insertion(0, 4), nil, api.ErrRange},
		{[]int{1}, insertion(0, -4), nil, api.ErrRange}, {[]int{1}, insertion(0, 0), nil, api.ErrRange}, {[]int{1}, insertion(0, math.MinInt), nil, api.ErrRange},
		{[]int{1, 2, -2}, cancel(1), []int{1}, api.OK}, {[]int{-2, 2}, cancel(0), nil, api.OK}, {[]int{1, 2, -2}, cancel(0), nil, api.ErrRule}, {[]int{2, 2}, cancel(0), nil, api.ErrRule},
		{[]int{1, -1}, cancel(1), nil, api.ErrRange}, {[]int{1, -1}, cancel(math.MaxInt), nil, api.ErrRange}, {[]int{1, -1}, cancel(math.MinInt), nil, api.ErrRange},
		{nil, cancel(0), nil, api.ErrRange}, {[]int{1, -1}, braid.Move{Kind: "cancel", Letter: 1}, nil, api.ErrForm}, {[]int{1, -1}, braid.Move{Kind: "drop"}, nil, api.ErrKind},
		{[]int{1, -1}, braid.Move{}, nil, api.ErrKind}, {[]int{1, -1}, braid.Move{Kind: "Cancel"}, nil, api.ErrKind},
	} {
		w, e := braid.Moved(4, example.w, []braid.Move{example.m})
		sameResult(t, w, e, example.wanted, example.e, example)
	}
	w, e := braid.Moved(1, nil, []braid.Move{insertion(0, 1)})
	sameResult(t, w, e, []int{}, api.ErrRange, "one strand has no letters")
}

// turnedIn returns what a turn makes of three letters, or nothing if they cannot be turned.
func turnedIn(x, y, z int) []int {
	if abs(x) != abs(z) || abs(abs(x)-abs(y)) != 1 {
		return nil
	}
	if sign(x) == sign(y) {
		return []int{abs(y) * sign(z), x, y}
	}
	if sign(y) == sign(z) {
		return []int{y, z, abs(y) * sign(x)}
	}
	return nil
}

func TestTurnsAndSwapsOfAllLetters(t *testing.T) {
	for _, w := range allWords(5, 3) {
		if len(w) == 3 {
			wanted, code := turnedIn(w[0], w[1], w[2]), api.OK
			if wanted == nil {
				code = api.ErrRule
			}
			got, e := braid.Moved(5, w, []braid.Move{turn(0)})
			sameResult(t, got, e, wanted, code, w)
			same(t, code == api.ErrRule || equalIn(5, w, got), true, w, got)
		}
		if len(w) == 2 {
			wanted, code := []int{w[1], w[0]}, api.OK
			if abs(abs(w[0])-abs(w[1])) < 2 {
				wanted, code = nil, api.ErrRule
			}
			got, e := braid.Moved(5, w, []braid.Move{swap(0)})
			sameResult(t, got, e, wanted, code, w)
		}
	}
}

// moving is a word with moves, and the word to which they should lead.
type moving struct {
	n     int
	a, b  []int
	moves []braid.Move
}

func goodMoving() moving {
	return moving{4, []int{1, 3}, []int{3, 1, 2, -2}, []braid.Move{swap(0), insertion(2, 2)}}
}

// faultsOfMoves returns the faults of moves in the order of their errors.
func faultsOfMoves() []fault[moving] {
	return []fault[moving]{
		{func(x *moving) { x.moves = repeated(100001, insertion(0, 1)) }, api.ErrMany},
		{func(x *moving) { x.moves = make([]braid.Move, 100001) }, api.ErrMany},
		{func(x *moving) { x.moves[0].Kind = "x" }, api.ErrKind},
		{func(x *moving) { x.moves[0].Letter = 9 }, api.ErrForm},
		{func(x *moving) { x.moves[0].Letter = 1 }, api.ErrForm},
		{func(x *moving) { x.moves[0].At = 1 }, api.ErrRange},
		{func(x *moving) { x.moves[0].At = -1 }, api.ErrRange},
		{func(x *moving) { x.moves[0] = turn(0) }, api.ErrRange},
		{func(x *moving) { x.moves[0] = cancel(0) }, api.ErrRule},
		{func(x *moving) { x.moves[1].Kind = "" }, api.ErrKind},
		{func(x *moving) { x.moves[1].Kind, x.moves[1].Letter = "swap", 2 }, api.ErrForm},
		{func(x *moving) { x.moves[1].Letter = 0 }, api.ErrRange},
		{func(x *moving) { x.moves[1].Letter = 4 }, api.ErrRange},
		{func(x *moving) { x.moves[1].At = 3 }, api.ErrRange},
	}
}

func TestErrorsOfMoves(t *testing.T) {
	checkFaults(t, goodMoving, faultsOfMoves(), func(x moving) api.Errno {
		w, e := braid.Moved(x.n, x.a, x.moves)
		wanted := x.b
		if e != api.OK {
			wanted = nil
		}
		same(t, w, wanted)
		return e
	})
	words := []fault[moving]{
		{func(x *moving) { x.n = 0 }, api.ErrRange}, {func(x *moving) { x.n = 13 }, api.ErrRange}, {func(x *moving) { x.a = make([]int, 201) }, api.ErrMany},
		{func(x *moving) { x.a = []int{1, 4} }, api.ErrRange}, {func(x *moving) { x.b = make([]int, 201) }, api.ErrMany}, {func(x *moving) { x.b = []int{0} }, api.ErrRange},
	}
	proof := []fault[moving]{
		{func(x *moving) { x.b = []int{3, 1} }, api.ErrProof}, {func(x *moving) { x.b = nil }, api.ErrProof}, {func(x *moving) { x.b = []int{3, 1, -2, 2} }, api.ErrProof},
	}
	checkFaults(t, goodMoving, slices.Concat(words, faultsOfMoves(), proof), func(x moving) api.Errno { return braid.CheckMoves(x.n, x.a, x.b, x.moves) })
}

func TestManyMoves(t *testing.T) {
	there := repeated(50000, insertion(0, 1))
	back := repeated(50000, cancel(49999))
	for i := range back {
		back[i].At = 49999 - i
	}
	w, e := braid.Moved(2, []int{1}, slices.Concat(there, back))
	sameResult(t, w, e, []int{1}, api.OK, "words on the way have no limit")
	same(t, braid.CheckMoves(2, []int{1}, []int{1}, slices.Concat(there, back)), api.OK)
	w, e = braid.Moved(2, repeated(200, 1), []braid.Move{insertion(200, 1)})
	sameResult(t, w, e, []int{}, api.ErrMany, "the result has a limit")
	same(t, braid.CheckMoves(2, repeated(200, 1), repeated(200, 1), []braid.Move{insertion(200, 1)}), api.ErrProof)
	w, e = braid.Moved(2, repeated(200, 1), []braid.Move{insertion(200, 1), cancel(200)})
	sameResult(t, w, e, repeated(200, 1), api.OK)
	w, e = braid.Moved(2, repeated(198, 1), []braid.Move{insertion(0, -1)})
	sameResult(t, w, e, slices.Concat([]int{-1, 1}, repeated(198, 1)), api.OK)
	w, e = braid.Moved(3, []int{1, 2}, nil)
	sameResult(t, w, e, []int{1, 2}, api.OK)
}

// followed returns the word to which moves lead by the rules, and whether each one is permitted.
func followed(n int, w []int, moves []braid.Move) ([]int, bool) {
	w = slices.Clone(w)
	for _, m := range moves {
		var part, other []int
		needs := map[string]int{"insert": 0, "cancel": 2, "swap": 2, "turn": 3}[m.Kind]
		if m.At < 0 || m.At+needs > len(w) || (m.Kind == "insert") != (m.Letter != 0) || abs(m.Letter) >= n {
			return nil, false
		}
		part = w[m.At : m.At+needs]
		good := false
		switch m.Kind {
		case "insert":
			other, good = []int{m.Letter, -m.Letter}, true
		case "cancel":
			good = part[0]+part[1] == 0
		case "swap":
			other, good = []int{part[1], part[0]}, abs(abs(part[0])-abs(part[1])) >= 2
		case "turn":
			other = turnedIn(part[0], part[1], part[2])
			good = other != nil
		}
		if !good {
			return nil, false
		}
		w = slices.Replace(w, m.At, m.At+needs, other...)
	}
	return w, true
}

// checkProof fails the test if two equal words have no proof.
func checkProof(t *testing.T, n int, a, b []int) int {
	t.Helper()
	moves, e := braid.Prove(n, a, b)
	same(t, []any{e, len(moves) <= braid.MaxMoves, braid.CheckMoves(n, a, b, moves)}, []any{api.OK, true, api.OK}, n, a, b)
	end, good := followed(n, a, moves)
	sameResult(t, end, api.OK, b, api.OK, n, a, b)
	same(t, good, true, n, a, b)
	return len(moves)
}

func TestProve(t *testing.T) {
	for _, example := range []struct {
		n    int
		a, b []int
	}{
		{3, []int{1, 2, 1}, []int{2, 1, 2}}, {3, nil, nil}, {1, nil, nil}, {3, []int{1, -1, 2}, []int{2}}, {4, []int{1, 3, 2}, []int{3, 1, 2}}, {3, []int{1, 2, -1}, []int{-2, 1, 2}},
		{3, []int{1, 2, 1, 2, 1, 2, 1}, []int{1, 1, 2, 1, 2, 1, 2}}, {3, []int{1, 2, -1, -2, -1, 2}, nil}, {3, nil, []int{1, 2, -1, -2, -1, 2}},
		{4, wordOfHalfTwist(4), []int{3, 2, 3, 1, 2, 3}}, {4, slices.Repeat([]int{1, 2, 3}, 4), slices.Repeat([]int{3, 2, 1}, 4)},
		{12, []int{1, 3, 5, 7, 9, 11, 1, 3, 5, 7, 9, 11}, []int{11, 9, 7, 5, 3, 1, 11, 9, 7, 5, 3, 1}}, {2, repeated(12, 1), repeated(12, 1)}, {2, append(repeated(12, 1), repeated(12, -1)...), nil},
	} {
		checkProof(t, example.n, example.a, example.b)
	}
	source := seeded()
	for n := 2; n <= 12; n++ {
		for range 100 {
			w := randomWord(source, n, source.Intn(9))
			checkProof(t, n, w, disguised(source, n, w, 500, 24-len(w)))
			checkProof(t, n, disguised(source, n, nil, 2000, 24), nil)
		}
	}
}

// These words were found by a search for those with the longest proofs; they leave much room below MaxMoves.
func TestProveHardWords(t *testing.T) {
	for _, hard := range []struct {
		n int
		w []int
	}{
		{3, []int{1, 1, -2, -2, 1, -2, -1, 1, -1, 1, -1, 1, -1, 1, -1, 1, -1, 1, 2, -1, 2, 2, -1, -1}},
		{4, []int{1, -2, 1, 3, -2, -2, -3, 2, -2, -2, 3, 3, -1, 1, -1, 1, -1, 1, -1, 1, 2, -1, 2, -1}},
		{5, []int{-1, 2, 2, 3, 4, 3, -4, -2, 2, -3, -4, 1, -1, 1, -1, 1, -1, 1, -1, 1, -1, -2, -2, 1}},
		{6, []int{1, -2, -2, -3, -4, -5, -4, 5, 5, 3, -3, 4, 5, 2, -2, -1, 1, -1, -4, 3, 1, 2, 2, -1}},
		{7, []int{-1, 2, -3, -4, -5, -4, 3, -3, 5, 4, 5, 2, 1, -1, 1, -1, 1, -1, 1, -1, -2, 3, -2, 1}},
		{8, []int{-3, 4, 5, 5, 6, 7, 6, -5, 5, 5, -7, -6, -6, -4, 4, -5, -6, -7, 3, -3, 3, -3, -4, 3}},
		{9, []int{-3, 4, -5, -6, 4, -7, -8, -7, 1, 6, -6, 8, 7, 8, 3, -3, -4, 5, 6, 5, -6, -4, 3, -1}},
		{10, []int{-4, 5, 6, 5, 5, 7, -2, 6, -7, -5, 5, -6, -7, 4, -4, 4, -4, 4, -4, -5, 4, 2, -6, -6}},
		{11, []int{7, 8, 9, -4, 10, -9, 9, 9, -8, 8, 10, -7, 7, -5, 4, -4, 5, -9, -10, -9, -9, -8, -7, 4}},
		{12, []int{-7, 8, -9, -10, -4, 1, -2, -9, 10, 7, 8, -8, 9, 10, -7, 7, -7, 7, -7, -8, 7, 4, 2, -1}},
	} {
		for cut := range len(hard.w) + 1 {
			moves := checkProof(t, hard.n, hard.w[:cut], opposite(hard.w[cut:]))
			same(t, moves < braid.MaxMoves/20, true, hard.n, cut, moves)
		}
	}
}

func TestErrorsOfProve(t *testing.T) {
	for _, bad := range []struct {
		n    int
		a, b []int
		e    api.Errno
	}{
		{3, repeated(13, 1), repeated(12, 1), api.ErrLimit}, {3, repeated(25, 1), nil, api.ErrLimit}, {3, nil, repeated(200, 1), api.ErrLimit}, {3, repeated(200, 1), repeated(200, 1), api.ErrLimit},
		{3, repeated(24, 1), nil, api.ErrInfeasible}, {3, repeated(12, 1), repeated(12, 2), api.ErrInfeasible}, {3, []int{1}, []int{2}, api.ErrInfeasible}, {3, []int{1}, nil, api.ErrInfeasible},
		{3, []int{1, -2, 1, -2, 1, -2}, nil, api.ErrInfeasible}, {3, []int{1, 2}, []int{2, 1}, api.ErrInfeasible},
	} {
		moves, e := braid.Prove(bad.n, bad.a, bad.b)
		sameResult(t, moves, e, []braid.Move{}, bad.e, bad)
	}
}

// refutation is a pair of words with the kinds in which they differ.
type refutation struct {
	n     int
	a, b  []int
	kinds []string
}

func refutations() []refutation {
	a, b := bigelow()
	return []refutation{
		{3, []int{1}, []int{-1}, []string{"exponent", "link", "burau", "form"}},
		{3, []int{1}, nil, []string{"exponent", "perm", "link", "burau", "form"}},
		{3, []int{1}, []int{2}, []string{"perm", "link", "burau", "form"}},
		{3, []int{1, 1}, []int{2, 2}, []string{"link", "burau", "form"}},
		{3, []int{1, 2, -1, -2}, nil, []string{"perm", "link", "burau", "form"}},
		{3, []int{1, -2, 1, -2, 1, -2}, nil, []string{"burau", "form"}},
		{5, a, b, []string{"form"}},
		{5, b, a, []string{"form"}},
		{3, []int{1, 2, 1}, []int{2, 1, 2}, nil},
		{1, nil, nil, nil},
		{2, repeated(200, 1), repeated(199, 1), []string{"exponent", "perm", "link", "burau", "form"}},
		{12, repeated(200, 11), repeated(200, 11), nil},
	}
}

func TestRefute(t *testing.T) {
	for _, r := range refutations() {
		kind, e := braid.Refute(r.n, r.a, r.b)
		if len(r.kinds) == 0 {
			sameResult(t, kind, e, "", api.ErrNone, r)
		} else {
			sameResult(t, kind, e, r.kinds[0], api.OK, r)
		}
		for _, kind := range []string{"exponent", "perm", "link", "burau", "form"} {
			wanted := api.ErrProof
			if slices.Contains(r.kinds, kind) {
				wanted = api.OK
			}
			same(t, braid.CheckRefute(r.n, r.a, r.b, kind), wanted, r, kind)
		}
		for _, kind := range []string{"", "knot", "Form", "exponent ", "perm\x00"} {
			same(t, braid.CheckRefute(r.n, r.a, r.b, kind), api.ErrKind, r, kind)
		}
	}
}

// kindsIn returns the kinds in which two words differ.
func kindsIn(n int, a, b []int) []string {
	sumOf := func(w []int) int {
		sum := 0
		for _, letter := range w {
			sum += sign(letter)
		}
		return sum
	}
	burauOf := func(w []int) [][]api.Rat {
		rows, _ := burauIn(n, w, rational("2"))
		return rows
	}
	differ := func(a, b [][]int) bool { return !slices.EqualFunc(a, b, slices.Equal) }
	var kinds []string
	add := func(kind string, differs bool) {
		if differs {
			kinds = append(kinds, kind)
		}
	}
	add("exponent", sumOf(a) != sumOf(b))
	add("perm", !slices.Equal(endsIn(n, a), endsIn(n, b)))
	add("link", differ(linksIn(n, a), linksIn(n, b)))
	add("burau", !slices.EqualFunc(burauOf(a), burauOf(b), slices.Equal))
	add("form", !equalIn(n, a, b))
	return kinds
}

func TestRefuteMany(t *testing.T) {
	source := seeded()
	for i := range 400 {
		n := 2 + i%3
		a, b := randomWord(source, n, 2*source.Intn(5)), randomWord(source, n, 2*source.Intn(5))
		if i%4 == 0 {
			b = disguised(source, n, a, 200, 20)
		}
		kinds := kindsIn(n, a, b)
		kind, e := braid.Refute(n, a, b)
		if len(kinds) == 0 {
			sameResult(t, kind, e, "", api.ErrNone, n, a, b)
		} else {
			sameResult(t, kind, e, kinds[0], api.OK, n, a, b)
		}
		for _, kind := range []string{"exponent", "perm", "link", "burau", "form"} {
			same(t, braid.CheckRefute(n, a, b, kind) == api.OK, slices.Contains(kinds, kind), n, a, b, kind)
		}
	}
}
