package braid

import (
	"slices"

	"becket/api"
	"becket/check"
)

// The kinds of moves.
const (
	kindInsert = "insert"
	kindCancel = "cancel"
	kindSwap   = "swap"
	kindTurn   = "turn"
)

// Move is a move of a word at a place: insert, cancel, swap or turn.
type Move struct {
	Kind   string
	At     int
	Letter int
}

// kindOfMove is how many letters a kind of moves needs, and what they become with the Letter of the move; it tells whether
// they are as the kind needs them.
type kindOfMove struct {
	needs  int
	change func(part []int, letter int) ([]int, bool)
}

// walk is a word on its way, with the moves that it has made. It has no limit.
type walk struct {
	strands int
	kinds   map[string]kindOfMove
	word    []int
	moves   []Move
}

// Moved returns a word after moves.
func Moved(n int, w []int, l []Move) ([]int, api.Errno) {
	if e := CheckWord(n, w); e != api.OK {
		return nil, e
	}
	end, e := follow(n, w, l)
	if e != api.OK {
		return nil, e
	}
	return limited(end)
}

// CheckMoves returns OK for moves that lead from one word to another one.
func CheckMoves(n int, a, b []int, l []Move) api.Errno {
	if e := checkWords(n, a, b); e != api.OK {
		return e
	}
	end, e := follow(n, a, l)
	return check.First(e, check.That(slices.Equal(end, b), api.ErrProof))
}

// Prove returns moves that lead from one word to an equal one.
func Prove(n int, a, b []int) ([]Move, api.Errno) {
	if e := check.First(checkWords(n, a, b), check.That(len(a)+len(b) <= MaxProve, api.ErrLimit)); e != api.OK {
		return nil, e
	}
	if equal, _ := Equal(n, a, b); !equal {
		return nil, api.ErrInfeasible
	}
	return prove(n, a, b), api.OK
}

// follow returns the word to which moves lead, of any length.
func follow(n int, w []int, l []Move) ([]int, api.Errno) {
	if len(l) > MaxMoves {
		return nil, api.ErrMany
	}
	on := newWalk(n, w)
	e := check.Each(l, on.do)
	return on.word, e
}

func newWalk(n int, w []int) *walk {
	return &walk{strands: n, kinds: kindsOfMoves(), word: slices.Clone(w)}
}

func kindsOfMoves() map[string]kindOfMove {
	return map[string]kindOfMove{
		kindInsert: {0, func(_ []int, letter int) ([]int, bool) { return []int{letter, -letter}, true }},
		kindCancel: {2, func(part []int, _ int) ([]int, bool) { return nil, part[0] == -part[1] }},
		kindSwap: {2, func(part []int, _ int) ([]int, bool) {
			return []int{part[1], part[0]}, distance(part[0], part[1]) >= 2
		}},
		kindTurn: {3, func(part []int, _ int) ([]int, bool) { return turned(part[0], part[1], part[2]) }},
	}
}

// turned returns what a turn makes of three letters; it tells whether it can turn them.
func turned(x, y, z int) ([]int, bool) {
	fits := sizeOf(x) == sizeOf(z) && distance(x, y) == 1
	switch {
	case signOf(x) == signOf(y):
		return []int{signOf(z) * sizeOf(y), x, y}, fits
	case signOf(y) == signOf(z):
		return []int{y, z, signOf(x) * sizeOf(y)}, fits
	}
	return nil, false
}

// do makes a move, or returns its error.
func (on *walk) do(m Move) api.Errno {
	kind, known := on.kinds[m.Kind]
	e := check.First(
		check.That(known, api.ErrKind),
		check.That(m.Kind == kindInsert || m.Letter == 0, api.ErrForm),
		check.That(m.Kind != kindInsert || checkLetter(on.strands, m.Letter) == api.OK, api.ErrRange),
		check.Range(m.At, 0, len(on.word)-kind.needs),
	)
	if e != api.OK {
		return e
	}
	end := m.At + kind.needs
	part, fits := kind.change(on.word[m.At:end], m.Letter)
	if !fits {
		return api.ErrRule
	}
	on.word = slices.Replace(on.word, m.At, end, part...)
	on.moves = append(on.moves, m)
	return api.OK
}

// prove returns moves from a word to an equal one: the inverse of this one, and it itself, are inserted behind the first
// word; then the first word with this inverse, which are equal to the empty word, are reduced until they are gone. This
// is the handle reduction of Dehornoy, which always ends: a word without handles is empty, or not equal to the empty
// word. The hardest words of MaxProve letters that a search has found take less than 700 moves.
func prove(n int, a, b []int) []Move {
	on := newWalk(n, a)
	for i, letter := range inverted(b) {
		on.do(Move{kindInsert, len(a) + i, letter})
	}
	for {
		begin, end, found := handle(on.word[:len(on.word)-len(b)])
		if !found {
			return on.moves
		}
		on.reduce(begin, end)
	}
}

// handle returns where the handle that ends first begins and ends, and tells whether there is one. A handle is two
// opposite letters, between which neither of them is, nor a letter that is 1 less without signs.
func handle(word []int) (int, int, bool) {
	for end, last := range word {
	back:
		for begin, letter := range slices.Backward(word[:end]) {
			switch {
			case letter == -last:
				return begin, end, true
			case letter == last, sizeOf(letter) == sizeOf(last)-1:
				break back
			}
		}
	}
	return 0, 0, false
}

// reduce takes the first letter of a handle through it to the last one, with which it is cancelled.
func (on *walk) reduce(begin, end int) {
	at := begin
	for at+1 < end {
		first, next := on.word[at], on.word[at+1]
		if distance(first, next) > 1 {
			on.do(Move{Kind: kindSwap, At: at})
			at++
			continue
		}
		// The next letter is 1 more without signs.
		above := signOf(first) * sizeOf(next)
		on.do(Move{kindInsert, at, -above})
		on.do(Move{Kind: kindTurn, At: at + 1})
		at, end = at+3, end+2
	}
	on.do(Move{Kind: kindCancel, At: at})
}
