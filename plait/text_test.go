package plait_test

import (
	"strconv"
	"strings"
	"testing"

	"becket/api"
	"becket/plait"
)

// The tests of the texts of P7.2.

func TestTexts(t *testing.T) {
	for _, example := range []struct {
		l    []plait.Move
		text string
	}{
		{nil, ""}, {chapterPlay().l, "1-3 5-7 0-1 4-5 3-4 7-0"}, {moves(0, 0), "0-0"}, {moves(999999999, 0, 10, 100), "999999999-0 10-100"}, {moves(0, 999999999), "0-999999999"},
		{repeated(1000, plait.Move{From: 1, To: 2}), strings.TrimSuffix(strings.Repeat("1-2 ", 1000), " ")},
		{append(repeated(194, plait.Move{From: 999999999, To: 999999999}), moves(100000, 9999999)...), strings.Repeat("999999999-999999999 ", 194) + "100000-9999999"},
	} {
		text, e := plait.PrintMoves(example.l)
		sameResult(t, text, e, example.text, api.OK)
		l, word, e := plait.ParseMoves(example.text)
		sameResult(t, l, e, example.l, api.OK, example.text)
		same(t, word, 0, example.text)
	}
}

func TestLongestTexts(t *testing.T) {
	long := repeated(204, plait.Move{From: 999999999, To: 999999999}) // 204 words of 19 bytes, with 203 blanks
	text, e := plait.PrintMoves(append(long, moves(1234567, 12345678)...))
	sameResult(t, text, e, strings.Repeat("999999999-999999999 ", 204)+"1234567-12345678", api.OK)
	same(t, len(text), 4096)
	l, word, e := plait.ParseMoves(text)
	sameResult(t, l, e, append(long, moves(1234567, 12345678)...), api.OK)
	same(t, word, 0)
	text, e = plait.PrintMoves(append(long, moves(1234567, 123456789)...))
	sameResult(t, text, e, "", api.ErrLong)
	text, e = plait.PrintMoves(repeated(1000, plait.Move{From: 10, To: 1}))
	sameResult(t, text, e, "", api.ErrLong)
}

func TestErrorsOfPrintMoves(t *testing.T) {
	type list struct{ l []plait.Move }
	faults := []fault[list]{
		{func(x *list) { x.l = make([]plait.Move, 1001) }, api.ErrMany},
		{func(x *list) { x.l = repeated(100000, plait.Move{From: -1, To: -1}) }, api.ErrMany},
	}
	for _, number := range []int{-1, 1000000000, extremes()[2], extremes()[3], extremes()[4]} {
		faults = append(faults,
			fault[list]{func(x *list) { x.l = append(x.l, plait.Move{From: number, To: 1}) }, api.ErrRange},
			fault[list]{func(x *list) { x.l = append(x.l, plait.Move{From: 1, To: number}) }, api.ErrRange},
		)
	}
	faults = append(faults, fault[list]{func(x *list) { x.l = repeated(999, plait.Move{From: 111, To: 222}) }, api.ErrLong})
	checkFaults(t, func() list { return list{moves(1, 2)} }, faults, func(x list) api.Errno {
		text, e := plait.PrintMoves(x.l)
		same(t, text != "", e == api.OK)
		return e
	})
}

func TestErrorsOfParseMoves(t *testing.T) {
	thousand := strings.Repeat("1-2 ", 1000)
	for _, bad := range []struct {
		text string
		word int
		e    api.Errno
	}{
		{strings.Repeat("1", 4097), 0, api.ErrLong}, {strings.Repeat(" ", 100000), 0, api.ErrLong}, {strings.Repeat("1-2 ", 1024) + "x", 0, api.ErrLong},
		{strings.Repeat(" ", 4096), 1, api.ErrSyntax}, {strings.Repeat("1", 4096), 1, api.ErrSyntax},
		{thousand + "1-2", 0, api.ErrMany}, {thousand + strings.Repeat("1-2 ", 20) + "3-4", 0, api.ErrMany}, {thousand + "1-2 x", 1002, api.ErrSyntax},
		{thousand, 1001, api.ErrSyntax}, {thousand + "1-2 ", 1002, api.ErrSyntax}, {"x " + thousand + "1-2", 1, api.ErrSyntax},
		{" ", 1, api.ErrSyntax}, {"  ", 1, api.ErrSyntax}, {"1-3 5", 2, api.ErrSyntax}, {"1-03", 1, api.ErrSyntax}, {"1--3", 1, api.ErrSyntax}, {"1-3  4-5", 2, api.ErrSyntax},
		{" 1-3", 1, api.ErrSyntax}, {"1-3 ", 2, api.ErrSyntax}, {"1-3\n", 1, api.ErrSyntax}, {"1-3\n4-5", 1, api.ErrSyntax}, {"1-3\t4-5", 1, api.ErrSyntax}, {"\n", 1, api.ErrSyntax},
		{"-", 1, api.ErrSyntax}, {"1-", 1, api.ErrSyntax}, {"-1", 1, api.ErrSyntax}, {"-1-2", 1, api.ErrSyntax}, {"1-2-3", 1, api.ErrSyntax}, {"1-2-", 1, api.ErrSyntax},
		{"01-3", 1, api.ErrSyntax}, {"00-1", 1, api.ErrSyntax}, {"1-00", 1, api.ErrSyntax}, {"-0-1", 1, api.ErrSyntax}, {"0--0", 1, api.ErrSyntax},
		{"+1-3", 1, api.ErrSyntax}, {"1-+3", 1, api.ErrSyntax}, {"1+3", 1, api.ErrSyntax}, {"1 - 3", 1, api.ErrSyntax}, {"1- 3", 1, api.ErrSyntax}, {"a-b", 1, api.ErrSyntax},
		{"1-0x3", 1, api.ErrSyntax}, {"1_0-3", 1, api.ErrSyntax}, {"1-3/1", 1, api.ErrSyntax}, {"1-3.0", 1, api.ErrSyntax}, {"1-٣", 1, api.ErrSyntax}, {"1–3", 1, api.ErrSyntax},
		{"1000000000-1", 1, api.ErrSyntax}, {"1-1000000000", 1, api.ErrSyntax}, {"1-99999999999999999999", 1, api.ErrSyntax}, {"1-0000000001", 1, api.ErrSyntax},
		{"0-1 1-2 2-3 x 4-5 y", 4, api.ErrSyntax}, {"1-2 \xff", 2, api.ErrSyntax}, {"1-2\x00", 1, api.ErrSyntax}, {"1-2,3-4", 1, api.ErrSyntax},
	} {
		l, word, e := plait.ParseMoves(bad.text)
		what := bad.text[:min(len(bad.text), 40)]
		sameResult(t, l, e, []plait.Move{}, bad.e, what)
		same(t, word, bad.word, what)
	}
}

// Each byte but digits and blanks is an error in the place of a digit.
func TestBytesOfTexts(t *testing.T) {
	for letter := range 256 {
		text := "0-1 2" + string([]byte{byte(letter)}) + "-3"
		l, word, e := plait.ParseMoves(text)
		if letter >= '0' && letter <= '9' {
			sameResult(t, l, e, moves(0, 1, 20+letter-'0', 3), api.OK, letter)
			same(t, word, 0, letter)
			continue
		}
		sameResult(t, l, e, []plait.Move{}, api.ErrSyntax, letter)
		same(t, word, 2, letter)
	}
}

func TestTextsOfMany(t *testing.T) {
	source := seeded()
	for range 200 {
		var l []plait.Move
		for range source.Intn(100) {
			l = append(l, plait.Move{From: source.Intn(1 << source.Intn(29)), To: source.Intn(1 << source.Intn(29))})
		}
		text, e := plait.PrintMoves(l)
		sameResult(t, text, e, textOf(l), api.OK)
		back, word, e := plait.ParseMoves(text)
		sameResult(t, back, e, l, api.OK, text)
		same(t, word, 0, text)
	}
	for digits := 1; digits <= 9; digits++ {
		number, _ := strconv.Atoi(strings.Repeat("9", digits))
		text, e := plait.PrintMoves(moves(number, number-8))
		sameResult(t, text, e, textOf(moves(number, number-8)), api.OK)
	}
}
