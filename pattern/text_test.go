package pattern_test

import (
	"strings"
	"testing"

	"becket/api"
	"becket/pattern"
)

// The tests of P6.6.

func TestTexts(t *testing.T) {
	for _, example := range []struct {
		p    [][]int
		text string
	}{
		{chapterPicture(), "ab\nba\nbb\n"}, {[][]int{{0, 1, 2, 3, 4, 5, 6, 7}}, "abcdefgh\n"}, {[][]int{{7}, {0}}, "h\na\n"}, {[][]int{{2}}, "c\n"},
		{repeated(24, repeated(24, 5)), strings.Repeat(strings.Repeat("f", 24)+"\n", 24)},
	} {
		text, e := pattern.Print(example.p)
		sameResult(t, text, e, example.text, api.OK)
		p, line, e := pattern.Parse(example.text)
		sameResult(t, p, e, example.p, api.OK, example.text)
		same(t, line, 0, example.text)
	}
	for i, bad := range badPictures() {
		text, e := pattern.Print(bad.p)
		sameResult(t, text, e, "", bad.e, i)
	}
}

func TestErrorsOfTexts(t *testing.T) {
	for _, bad := range []struct {
		text string
		line int
		e    api.Errno
	}{
		{strings.Repeat("a", 4097), 0, api.ErrLong}, {strings.Repeat("a", 4096) + "\n", 0, api.ErrLong}, {strings.Repeat("x\n", 3000), 0, api.ErrLong},
		{strings.Repeat("a", 100000), 0, api.ErrLong}, {strings.Repeat("a", 4096), 0, api.ErrTorn}, {strings.Repeat("a", 4095) + "\n", 0, api.ErrMany},
		{strings.Repeat("\n", 4096), 0, api.ErrMany}, {strings.Repeat("a\n", 2048), 0, api.ErrMany}, {strings.Repeat("a\n", 2047) + "x\n", 2048, api.ErrSyntax},
		{"", 0, api.ErrTorn}, {"ab", 0, api.ErrTorn}, {"ab\nba", 0, api.ErrTorn}, {"x", 0, api.ErrTorn}, {"ab\r", 0, api.ErrTorn},
		{"ab\nbx\n", 2, api.ErrSyntax}, {"i\n", 1, api.ErrSyntax}, {"A\n", 1, api.ErrSyntax}, {"`\n", 1, api.ErrSyntax}, {"ab\r\n", 1, api.ErrSyntax}, {" a\n", 1, api.ErrSyntax},
		{"a \n", 1, api.ErrSyntax}, {"0\n", 1, api.ErrSyntax}, {"a\x00\n", 1, api.ErrSyntax}, {"a\xff\n", 1, api.ErrSyntax}, {"a\xc3\n", 1, api.ErrSyntax}, {"ä\n", 1, api.ErrSyntax},
		{"a\ufffd\n", 1, api.ErrSyntax}, {"ā\n", 1, api.ErrSyntax}, {"ab\nab\na\tb\nx\n", 3, api.ErrSyntax}, {"ab\nb\nxy\n", 3, api.ErrSyntax}, {"\n\nx\n", 3, api.ErrSyntax},
		{strings.Repeat("a\n", 30) + "x\n", 31, api.ErrSyntax}, {strings.Repeat("a", 30) + "\nx\n", 2, api.ErrSyntax},
		{"ab\nb\n", 0, api.ErrShape}, {"a\nbb\n", 0, api.ErrShape}, {"\n", 0, api.ErrEmpty}, {"a\n\n", 0, api.ErrEmpty}, {"\na\n", 0, api.ErrEmpty},
		{strings.Repeat("a\n", 25), 0, api.ErrMany}, {strings.Repeat("a", 25) + "\n", 0, api.ErrMany}, {"a\n" + strings.Repeat("a", 25) + "\n", 0, api.ErrMany},
	} {
		p, line, e := pattern.Parse(bad.text)
		what := bad.text[:min(len(bad.text), 40)]
		sameResult(t, p, e, [][]int{}, bad.e, what)
		same(t, line, bad.line, what)
	}
}

// Each byte but those of the letters a to h, and a line feed, is an error.
func TestBytesOfTexts(t *testing.T) {
	for letter := range 256 {
		text := "ab\na" + string([]byte{byte(letter)}) + "\n"
		_, line, e := pattern.Parse(text)
		switch {
		case letter >= 'a' && letter <= 'h':
			same(t, []any{line, e}, []any{0, api.OK}, letter)
		case letter == '\n':
			same(t, []any{line, e}, []any{0, api.ErrShape}, letter)
		default:
			same(t, []any{line, e}, []any{2, api.ErrSyntax}, letter)
		}
	}
}
