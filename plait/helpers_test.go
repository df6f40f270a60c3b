package plait_test

import (
	"math"
	"math/rand"
	"reflect"
	"slices"
	"strings"
	"testing"

	"becket/api"
	"becket/plait"
)

// The tests use the exported functions of the package alone, and compare with a plain model of single threads and strands.

// same fails the test if a result is not the wanted one; nil and empty slices are equivalent.
func same(t *testing.T, got, wanted any, what ...any) {
	t.Helper()
	if !alike(reflect.ValueOf(got), reflect.ValueOf(wanted)) {
		t.Errorf("%v: got %v, want %v", what, got, wanted)
	}
}

func alike(a, b reflect.Value) bool {
	if a.Kind() == reflect.Interface && b.Kind() == reflect.Interface {
		a, b = a.Elem(), b.Elem()
	}
	if a.Kind() != reflect.Slice || b.Kind() != reflect.Slice {
		return a.IsValid() && b.IsValid() && reflect.DeepEqual(a.Interface(), b.Interface())
	}
	if a.Len() != b.Len() || a.Type() != b.Type() {
		return false
	}
	for i := range a.Len() {
		if !alike(a.Index(i), b.Index(i)) {
			return false
		}
	}
	return true
}

// sameResult fails the test if a result and its error are not the wanted ones.
func sameResult(t *testing.T, got any, e api.Errno, wanted any, code api.Errno, what ...any) {
	t.Helper()
	same(t, e, code, what...)
	same(t, got, wanted, what...)
}

// seeded returns a source of numbers that is the same in each run.
func seeded() *rand.Rand {
	return rand.New(rand.NewSource(39373))
}

// fault makes something wrong, so that the error has to be returned.
type fault[T any] struct {
	make func(x *T)
	e    api.Errno
}

// checkFaults fails the test for each fault, in the order of their errors, that does not decide alone, or together with
// one that comes after it.
func checkFaults[T any](t *testing.T, good func() T, faults []fault[T], check func(x T) api.Errno) {
	t.Helper()
	same(t, check(good()), api.OK, "without a fault")
	for i, first := range faults {
		for k, later := range faults[i:] {
			x := good()
			later.make(&x)
			first.make(&x) // the last one, for it may overwrite what the later one made
			same(t, check(x), first.e, "fault", i, "before", i+k)
		}
	}
}

// repeated returns a list with an element so many times.
func repeated[T any](count int, element T) []T {
	return slices.Repeat([]T{element}, count)
}

// extremes are integers that are never slots, threads, strands or positions.
func extremes() []int {
	return []int{-1, 1000, math.MaxInt32 + 1, math.MinInt, math.MaxInt}
}

// play is a stand with moves.
type play struct {
	s []int
	l []plait.Move
}

// chapterPlay is the stand of the chapter, with its round.
func chapterPlay() play {
	return play{[]int{1, 2, 0, 0, 3, 4, 0, 0}, moves(1, 3, 5, 7, 0, 1, 4, 5, 3, 4, 7, 0)}
}

// moves returns moves between these slots.
func moves(slots ...int) []plait.Move {
	var l []plait.Move
	for i := 0; i+1 < len(slots); i += 2 {
		l = append(l, plait.Move{From: slots[i], To: slots[i+1]})
	}
	return l
}

// randomStand returns a stand with so many slots, some of which are free.
func randomStand(source *rand.Rand, slots, threads int) []int {
	s := make([]int, slots)
	names := source.Perm(64)
	for i, slot := range source.Perm(slots)[:min(slots, threads)] {
		s[slot] = 1 + names[i]
	}
	return s
}

// randomMoves returns moves between slots, some of which are not there.
func randomMoves(source *rand.Rand, slots, count int) []plait.Move {
	var l []plait.Move
	for range count {
		l = append(l, plait.Move{From: source.Intn(slots+2) - 1, To: source.Intn(slots+2) - 1})
	}
	return l
}

// randomRound returns moves that are legal, one after another, and then those by which the same slots have threads again.
func randomRound(source *rand.Rand, s []int, count int) []plait.Move {
	var l []plait.Move
	now := slices.Clone(s)
	move := func(from, to int) {
		l = append(l, plait.Move{From: from, To: to})
		now[to], now[from] = now[from], 0
	}
	for range count {
		if from, to := source.Intn(len(s)), source.Intn(len(s)); now[from] != 0 && now[to] == 0 {
			move(from, to)
		}
	}
	for _, from := range source.Perm(len(s)) {
		for _, to := range source.Perm(len(s)) {
			if now[from] != 0 && s[from] == 0 && now[to] == 0 && s[to] != 0 {
				move(from, to)
			}
		}
	}
	return l
}

// manyPlays returns stands of many sizes with any moves, and with rounds.
func manyPlays() []play {
	source := seeded()
	list := []play{chapterPlay(), {chapterPlay().s, nil}, {[]int{0, 0, 0, 0}, nil}, {[]int{1, 2, 3, 4}, moves(0, 1)}}
	for i := range 300 {
		slots := 4 + source.Intn(9)
		if i%10 == 0 {
			slots = 4 + source.Intn(61)
		}
		s := randomStand(source, slots, source.Intn(slots+1))
		list = append(list, play{s, randomMoves(source, slots, source.Intn(40))}, play{s, randomRound(source, s, source.Intn(60))})
	}
	full := randomStand(source, 64, 64)
	return append(list, play{full, moves(0, 63, 63, 0)}, play{randomStand(source, 64, 63), randomMoves(source, 64, 1000)})
}

// badStand is a stand with its error.
type badStand struct {
	s []int
	e api.Errno
}

// badStands returns stands with each error.
func badStands() []badStand {
	list := []badStand{
		{nil, api.ErrShape}, {[]int{1}, api.ErrShape}, {[]int{1, 2, 3}, api.ErrShape}, {[]int{7, 7, 65}, api.ErrShape},
		{make([]int, 65), api.ErrMany}, {repeated(65, 1), api.ErrMany}, {repeated(100000, -1), api.ErrMany},
		{[]int{0, 65, 0, 0}, api.ErrRange}, {[]int{0, 65, 1, 1}, api.ErrRange}, {[]int{65, 65, 0, 0}, api.ErrRange}, {[]int{1, 2, 3, 65}, api.ErrRange}, {[]int{1, -1, -1, 1}, api.ErrRange},
		{[]int{1, 0, 0, 1}, api.ErrTwice}, {[]int{1, 1, 65, 0}, api.ErrTwice}, {[]int{64, 0, 0, 0, 64}, api.ErrTwice}, {[]int{5, 6, 7, 6, 7}, api.ErrTwice}, {repeated(64, 64), api.ErrTwice},
	}
	for _, thread := range extremes() {
		list = append(list, badStand{[]int{0, thread, thread, 0}, api.ErrRange})
	}
	return list
}

// faultsOfStands returns what makes a stand wrong.
func faultsOfStands() []fault[play] {
	var list []fault[play]
	for _, bad := range badStands() {
		list = append(list, fault[play]{func(x *play) { x.s = bad.s }, bad.e})
	}
	return list
}

// faultsOfPlays returns what makes a stand or its moves wrong.
func faultsOfPlays() []fault[play] {
	return append(faultsOfStands(),
		fault[play]{func(x *play) { x.l = make([]plait.Move, 1001) }, api.ErrMany},
		fault[play]{func(x *play) { x.l = repeated(100000, plait.Move{From: 0, To: 1}) }, api.ErrMany},
	)
}

// lacing is a number of strands with passes, and with a word.
type lacing struct {
	n int
	l []plait.Pass
	w []int
}

// chapterPasses is the plait of the chapter.
func chapterPasses() []plait.Pass {
	return []plait.Pass{{From: 1, To: 2, Way: "o"}, {From: 3, To: 2, Way: "o"}}
}

// randomPasses returns so many passes of n strands.
func randomPasses(source *rand.Rand, n, count int) []plait.Pass {
	var l []plait.Pass
	for range count {
		ends := source.Perm(n)[:2]
		way := ""
		for range max(ends[0]-ends[1], ends[1]-ends[0]) {
			way += []string{"o", "u"}[source.Intn(2)]
		}
		l = append(l, plait.Pass{From: ends[0] + 1, To: ends[1] + 1, Way: way})
	}
	return l
}

// randomWord returns a word with so many letters, parts of which ascend or descend.
func randomWord(source *rand.Rand, n, length int) []int {
	var w []int
	for len(w) < length {
		size, step := 1+source.Intn(n-1), source.Intn(3)-1
		for range 1 + source.Intn(6) {
			if size < 1 || size >= n || len(w) == length {
				break
			}
			w = append(w, size*(2*source.Intn(2)-1))
			size += step
		}
	}
	return w
}

// allWords returns all words with up to so many letters.
func allWords(n, most int) [][]int {
	list := [][]int{nil}
	for i := 0; i < len(list); i++ {
		for letter := 1 - n; letter < n; letter++ {
			if letter != 0 && len(list[i]) < most {
				list = append(list, append(slices.Clone(list[i]), letter))
			}
		}
	}
	return list
}

// manyLacings returns passes and words of few strands, and of up to 12.
func manyLacings() []lacing {
	source := seeded()
	var list []lacing
	for n := 2; n <= 4; n++ {
		for _, w := range allWords(n, 6-n) {
			list = append(list, lacing{n, randomPasses(source, n, source.Intn(5)), w})
		}
	}
	for n := 2; n <= 12; n++ {
		for from := 1; from <= n; from++ {
			for to := 1; to <= n; to++ {
				if from != to {
					way := strings.Repeat("oouu", 3)[:max(from-to, to-from)]
					list = append(list, lacing{n, []plait.Pass{{From: from, To: to, Way: way}}, randomWord(source, n, n)})
				}
			}
		}
		for range 20 {
			list = append(list, lacing{n, randomPasses(source, n, source.Intn(18)), randomWord(source, n, source.Intn(201))})
		}
	}
	return append(list, lacing{2, nil, repeated(200, 1)}, lacing{2, repeated(200, plait.Pass{From: 2, To: 1, Way: "u"}), repeated(200, -1)})
}

// badPasses is passes of n strands with their error.
type badPasses struct {
	n int
	l []plait.Pass
	e api.Errno
}

// listsOfBadPasses returns passes with each error.
func listsOfBadPasses() []badPasses {
	var list []badPasses
	add := func(e api.Errno, n int, l ...plait.Pass) { list = append(list, badPasses{n, l, e}) }
	good, wrong := plait.Pass{From: 1, To: 2, Way: "o"}, plait.Pass{From: 1, To: 1}
	for _, n := range append(extremes(), 0, 1, 13) {
		add(api.ErrRange, n)
		add(api.ErrRange, n, good)
		add(api.ErrRange, n, repeated(1001, wrong)...)
	}
	add(api.ErrMany, 3, repeated(1001, good)...)
	add(api.ErrMany, 3, repeated(1001, wrong)...)
	add(api.ErrMany, 12, repeated(100000, good)...)
	for _, position := range append(extremes(), 0, 4) {
		add(api.ErrRange, 3, plait.Pass{From: position, To: 2, Way: "o"})
		add(api.ErrRange, 3, plait.Pass{From: 2, To: position, Way: "o"})
		add(api.ErrRange, 3, good, plait.Pass{From: 2, To: position, Way: "x"}, wrong)
		add(api.ErrRange, 3, plait.Pass{From: position, To: position})
	}
	add(api.ErrRange, 12, plait.Pass{From: 13, To: 12, Way: "o"})
	add(api.ErrRange, 2, plait.Pass{From: 1, To: 3, Way: "oo"})
	add(api.ErrTwice, 3, wrong)
	add(api.ErrTwice, 3, plait.Pass{From: 2, To: 2, Way: "x"})
	add(api.ErrTwice, 3, good, wrong, plait.Pass{From: 0, To: 1, Way: "o"})
	for _, way := range []string{"", "o", "ooo", "x", "xxx", "ouo ", strings.Repeat("x", 100000)} {
		add(api.ErrShape, 3, plait.Pass{From: 1, To: 3, Way: way})
		add(api.ErrShape, 3, plait.Pass{From: 3, To: 1, Way: way}, wrong)
	}
	add(api.ErrShape, 3, good, plait.Pass{From: 2, To: 1, Way: "oo"})
	for _, way := range []string{"ox", "xo", "oO", "Uo", "o ", "  ", "o0", "ö", "\xff\xff", "o\x00", "\xc3o", "on", "op", "ut", "uv"} {
		add(api.ErrForm, 3, plait.Pass{From: 1, To: 3, Way: way})
		add(api.ErrForm, 3, good, plait.Pass{From: 3, To: 1, Way: way}, wrong)
	}
	return list
}

// badWord is a word on n strands with its error.
type badWord struct {
	n int
	w []int
	e api.Errno
}

// badWords returns words with each error.
func badWords() []badWord {
	list := []badWord{
		{3, repeated(201, 1), api.ErrMany}, {3, repeated(201, 9), api.ErrMany}, {12, make([]int, 100000), api.ErrMany}, {1, repeated(201, 1), api.ErrMany},
		{3, []int{0}, api.ErrRange}, {3, []int{1, 2, 3}, api.ErrRange}, {3, []int{-3}, api.ErrRange}, {1, []int{1}, api.ErrRange}, {2, []int{1, -1, 2}, api.ErrRange},
		{12, []int{11, 12}, api.ErrRange}, {12, []int{-12}, api.ErrRange}, {12, []int{math.MinInt}, api.ErrRange}, {12, []int{math.MaxInt}, api.ErrRange},
	}
	for _, n := range append(extremes(), 0, 13) {
		list = append(list, badWord{n, nil, api.ErrRange}, badWord{n, []int{1}, api.ErrRange}, badWord{n, repeated(201, 0), api.ErrRange})
	}
	return list
}
