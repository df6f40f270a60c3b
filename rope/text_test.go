package rope_test

import (
	"regexp"
	"slices"
	"strings"
	"testing"

	"becket/api"
	"becket/rope"
)

// The tests of P3.5.

const textOfR = "rope r\npart rope -1 0 0 0 6000 1 0\npart strand 0 1 40 3000 3000 3 0\npart yarn 1 -1 20 1000 1000 5 0 2 100 1\n"

// lengthened returns a rope whose text has so many bytes.
func lengthened(bytes int) rope.Rope {
	digits := func(count int) api.Rat { return "7" + api.Rat(strings.Repeat("0", count-1)) }
	r := laid()
	for {
		text, _ := rope.Print(r)
		p := core("x"+string(rune('a'+len(r.Parts))), 0, 1, digits(1), digits(1))
		left := bytes - len(text) - len("part xa 0 0 0 0 1 1 7 1 1 7\n")
		p.Twist, p.Stiff = digits(1+min(left, 599)), digits(1+min(max(left-599, 0), 599))
		r.Parts = append(r.Parts, p)
		if left <= 2*599 {
			return r
		}
	}
}

func TestPrint(t *testing.T) {
	text, e := rope.Print(laid())
	same(t, []any{text, e}, []any{textOfR, api.OK})
	text, e = rope.Print(cored())
	more := "part heart 0 0 0 0 1500 1 7/3 1 1 1/2\npart thin 0 -1 70 4000 700 4 -5/2 9 30 2/7\npart inner 1 0 0 0 800 1 3 1 1 4\n"
	same(t, []any{text, e}, []any{textOfR + more, api.OK})
	text, e = rope.Print(chain(1, "-1/3"))
	same(t, []any{text, e}, []any{"rope chain\npart c0 -1 0 0 0 9 1 -1/3 1 1 1\n", api.OK})
	for _, bytes := range []int{300, 2000, 4095, 4096, 4097, 5000} {
		r := lengthened(bytes)
		same(t, rope.CheckRope(r), api.OK, bytes)
		text, e := rope.Print(r)
		wanted, code := bytes, api.OK
		if bytes > 4096 {
			wanted, code = 0, api.ErrLong
		}
		same(t, []any{len(text), e}, []any{wanted, code}, bytes)
		if e == api.OK {
			back, line, e := rope.Parse(text)
			same(t, []any{back, line, e}, []any{r, 0, api.OK}, bytes)
		}
	}
	long := lengthened(5000)
	long.Parts[0].Name = "1"
	_, e = rope.Print(long)
	same(t, e, api.ErrName, "before the size of the text")
}

func TestParse(t *testing.T) {
	r, line, e := rope.Parse(textOfR)
	same(t, []any{r, line, e}, []any{laid(), 0, api.OK})
	for _, row := range []struct {
		text string
		line int
		e    api.Errno
	}{
		{"", 0, api.ErrTorn}, {"rope r", 0, api.ErrTorn}, {"rope r\n", 0, api.ErrEmpty}, {textOfR[:len(textOfR)-1], 0, api.ErrTorn},
		{textOfR + "x", 0, api.ErrTorn},
		{strings.Repeat("x", 4097), 0, api.ErrLong}, {strings.Repeat("x", 4096), 0, api.ErrTorn},
		{strings.Repeat("x", 4095) + "\n", 1, api.ErrSyntax}, {strings.Repeat("x", 4096) + "\n", 0, api.ErrLong},
		{"\n", 1, api.ErrSyntax}, {"\n\n", 1, api.ErrSyntax}, {"rope\n", 1, api.ErrSyntax}, {"rope \n", 1, api.ErrSyntax},
		{" rope r\n", 1, api.ErrSyntax}, {"rope r \n", 1, api.ErrSyntax}, {"rope  r\n", 1, api.ErrSyntax},
		{"Rope r\n", 1, api.ErrSyntax}, {"rope r r\n", 1, api.ErrSyntax}, {"part x -1 0 0 0 9 1 0 1 1 1\n", 1, api.ErrSyntax},
		{"rope r\nrope r\n", 2, api.ErrSyntax}, {"rope r\n\n", 2, api.ErrSyntax},
		{textOfR + "\n", 5, api.ErrSyntax}, {textOfR + "rope r\n", 5, api.ErrSyntax}, {textOfR + "part\n", 5, api.ErrSyntax},
		{"rope r\r\n", 0, api.ErrName}, {"rope \t\n", 0, api.ErrName}, {"rope r\tr\n", 0, api.ErrName}, // other blanks belong to the word
	} {
		r, line, e := rope.Parse(row.text)
		same(t, []any{r, line, e}, []any{rope.Rope{}, row.line, row.e}, row.text)
	}
}

// Each line of a part is the second one of a text whose later line is wrong, too.
func TestParseParts(t *testing.T) {
	for _, line := range []string{
		"part x -1 0 0 0 9 1", "part x -1 0 0 0 9 1 0 1", "part x -1 0 0 0 9 1 0 1 1", "part x -1 0 0 0 9 1 0 1 1 1 1",
		"part x  -1 0 0 0 9 1 0", "part x -1 0 0 0 9 1 ", "part x -1 0 0 0 9 1 0 ",
		"part x -1 0 0 0 9 1 0 1 1 ", "parts x -1 0 0 0 9 1 0", "PART x -1 0 0 0 9 1 0", " part x -1 0 0 0 9 1 0",
		"rope x -1 0 0 0 9 1 0", "rope x", "x", "",
	} {
		r, number, e := rope.Parse("rope r\n" + line + "\nx\n")
		same(t, []any{r, number, e}, []any{rope.Rope{}, 2, api.ErrSyntax}, line)
	}
	words := strings.Split("part x -1 0 0 0 9 1 0 1 1 1", " ")
	for place := range words {
		for _, word := range []string{
			"00", "01", "-0", "-01", "+1", "1.0", "1e1", "0x1", "1_0", "", "-", "--1", "x", "1000000000", "-1000000000",
			"99999999999999999999", "1/2", "\xff", "١",
		} {
			changed := slices.Clone(words)
			changed[place] = word
			_, number, e := rope.Parse("rope r\n" + strings.Join(changed, " ") + "\n")
			integer := place >= 2 && place <= 7 || place == 9
			wrong := place == 0 || integer || word == ""
			same(t, []any{number == 2, e == api.ErrSyntax}, []any{wrong, wrong}, changed)
		}
		for _, word := range []string{"0", "-1", "999999999", "-999999999", "100000000"} {
			changed := slices.Clone(words)
			changed[place] = word
			_, number, e := rope.Parse("rope r\n" + strings.Join(changed, " ") + "\n")
			same(t, []any{number == 2, e == api.ErrSyntax}, []any{place == 0, place == 0}, changed)
		}
	}
}

func TestParseChecksTheRope(t *testing.T) {
	for text, wanted := range map[string]api.Errno{
		"rope 1\n": api.ErrName, "rope r\npart x -1 0 0 0 9 1 0 1 1 1\n": api.OK, "rope r\npart x -1 0 0 0 9 1 0\n": api.ErrRange,
		"rope r\npart x -1 0 0 0 9 1 x 1 1 1\n":                          api.ErrForm,
		"rope r\npart x -1 0 0 0 9 1 0 1 1 " + string(nines(601)) + "\n": api.ErrLarge,
		"rope r\npart x -1 0 0 0 9 1 0 1 0 1\n":                          api.ErrRange, "rope r\npart x -1 0 0 0 9 1 0 1 1 1 \n": api.ErrSyntax,
		textOfR + "part yarn 1 0 0 0 1 1 0 1 1 1\n": api.ErrTwice, textOfR + "part new 4 0 0 0 1 1 0 1 1 1\n": api.ErrUnknown,
		textOfR + "part new 1 2 0 0 1 1 0 1 1 1\n":    api.ErrHand,
		textOfR + "part new 1 0 0 0 3001 1 0 1 1 1\n": api.ErrShape, textOfR + "part new 1 0 0 0 3000 1 0 1 1 1\n": api.OK,
		"rope r\n" + strings.Repeat("part x -1 0 0 0 9 1 0\n", 65):  api.ErrMany,
		"rope r\n" + strings.Repeat("part x -1 0 0 0 9 1 0\n", 180): api.ErrMany,
	} {
		r, line, e := rope.Parse(text)
		same(t, e, wanted, text)
		same(t, line != 0, e == api.ErrSyntax, text)
		same(t, r.Name == "" && r.Parts == nil, e != api.OK, text)
	}
	// A parent may have its three zeros, too.
	r, line, e := rope.Parse(strings.Replace(textOfR, "3000 3 0\n", "3000 3 0 0 0 0\n", 1))
	same(t, []any{r, line, e}, []any{laid(), 0, api.OK})
}

// firstWrongLine finds the line that has not its form, from 1 on.
func firstWrongLine(text string) int {
	head := regexp.MustCompile(`^rope [^ ]+$`)
	part := regexp.MustCompile(`^part [^ ]+( (0|-?[1-9][0-9]{0,8})){6} [^ ]+( (0|-?[1-9][0-9]{0,8}) [^ ]+ [^ ]+)?$`)
	for i, line := range strings.Split(strings.TrimSuffix(text, "\n"), "\n") {
		if i == 0 && !head.MatchString(line) || i > 0 && !part.MatchString(line) {
			return i + 1
		}
	}
	return 0
}

func TestParseChangedTexts(t *testing.T) {
	source := seeded()
	text, _ := rope.Print(cored())
	counts := map[api.Errno]int{}
	for range 8000 {
		changed := []byte(text)
		for range 1 + source.Intn(2) {
			place, with := source.Intn(len(changed)), " \n-0123459/parte\t"[source.Intn(17)]
			switch source.Intn(3) {
			case 0:
				changed[place] = with
			case 1:
				changed = slices.Delete(changed, place, place+1)
			case 2:
				changed = slices.Insert(changed, place, with)
			}
		}
		r, line, e := rope.Parse(string(changed))
		counts[e]++
		if !strings.HasSuffix(string(changed), "\n") {
			same(t, []any{line, e}, []any{0, api.ErrTorn}, string(changed))
			continue
		}
		same(t, line, firstWrongLine(string(changed)), string(changed))
		same(t, line != 0, e == api.ErrSyntax, string(changed))
		if e == api.OK {
			same(t, rope.CheckRope(r), api.OK, string(changed))
			back, _ := rope.Print(r)
			again, _, _ := rope.Parse(back)
			same(t, again, r, string(changed))
		}
	}
	same(t, counts[api.OK] > 300 && counts[api.ErrSyntax] > 300 && len(counts) > 8, true, counts)
}
