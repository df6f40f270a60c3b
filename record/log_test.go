package record_test

import (
	"math/rand"
	"strings"
	"testing"

	"becket/api"
	"becket/record"
)

// The tests of P10.4.

// checkRecover compares what is recovered of a text with what has to be.
func checkRecover(t *testing.T, text string, l []api.Event, length int, e api.Errno) {
	t.Helper()
	got, at, code := record.Recover(text)
	sameResult(t, []any{got, at}, code, []any{l, length}, e, strings.ReplaceAll(text, "\n", "|"))
}

// summed returns a line with a check sum that is right.
func summed(body string) string {
	return body + ";" + sumOf(body) + "\n"
}

func TestCheckSumsOfTheChapter(t *testing.T) {
	for text, sum := range map[string]string{"": "0000007", "1": "0000266", "11": "0008295"} {
		same(t, sumOf(text), sum) // those of the model
		checkRecover(t, text+";"+sum+"\n", nil, 0, api.ErrSyntax)
		checkRecover(t, text+";"+sum[:6]+"8\n", nil, 0, api.ErrCheck)
	}
}

func TestAppend(t *testing.T) {
	log := ""
	for i, x := range chapterEvents() {
		longer, e := record.Append(log, x)
		sameResult(t, longer, e, logOf(chapterEvents()[:i+1]), api.OK)
		log = longer
	}
	same(t, strings.HasPrefix(log, "1 make a b 10 100 2;"), true, log)
	// Events do not have to be accepted.
	for _, x := range []api.Event{event("4 undo"), event("4 fail z 999999999"), event("4 make a b 0 0 0")} {
		longer, e := record.Append(log, x)
		sameResult(t, longer, e, log+recordOf(x), api.OK)
	}
	full := logOf(fullEvents())
	for _, example := range []struct {
		log string
		x   api.Event
		e   api.Errno
	}{
		{log, event("3 undo"), api.ErrOrder}, {log, event("5 undo"), api.ErrOrder}, {log, event("1 undo"), api.ErrOrder}, {"", event("2 undo"), api.ErrOrder}, {log, event("0 undo"), api.ErrRange},
		{log, api.Event{}, api.ErrRange}, {log, event("5 note"), api.ErrKind}, {log, event("4 fail a"), api.ErrShape}, {log, api.Event{Number: 4, Kind: "fail", Names: []string{"a;"}, Values: []int{1}}, api.ErrName},
		{log, api.Event{Number: 4, Kind: "undo", Text: "x"}, api.ErrForm}, {log[:len(log)-1], event("4 undo"), api.ErrTorn}, {log + "\n", event("4 undo"), api.ErrSyntax}, {log[1:], api.Event{}, api.ErrCheck},
		{log + recordOf(event("5 undo")), event("5 note"), api.ErrOrder}, {strings.Repeat("9", api.MaxLog+1), api.Event{}, api.ErrLong}, {strings.Repeat("9", api.MaxLog), api.Event{}, api.ErrTorn},
		{full, event("1000 undo"), api.ErrOrder}, {full, event("1001 undo"), api.ErrRange}, {full + log, event("5 undo"), api.ErrOrder},
	} {
		longer, e := record.Append(example.log, example.x)
		sameResult(t, longer, e, "", example.e, example.x, example.log[:min(len(example.log), 40)])
	}
}

func TestRecover(t *testing.T) {
	l := chapterEvents()
	log := logOf(l)
	checkRecover(t, "", nil, 0, api.OK)
	checkRecover(t, log, l, len(log), api.OK)
	checkRecover(t, logOf(fullEvents()), fullEvents(), len(logOf(fullEvents())), api.OK)
	for _, x := range append(goodEvents(), event("1 undo")) {
		x.Number = 1
		checkRecover(t, recordOf(x), []api.Event{x}, len(recordOf(x)), api.OK)
	}
}

// Each end that is no record comes behind nothing, and behind a log; what comes behind it does not matter.
func TestWhatFollowsALog(t *testing.T) {
	for _, example := range []struct {
		end string
		e   api.Errno
	}{
		{"9", api.ErrTorn}, {";", api.ErrTorn}, {"\x00", api.ErrTorn}, {" ", api.ErrTorn},
		{"\n", api.ErrSyntax}, {" \n", api.ErrSyntax}, {"1\n", api.ErrSyntax}, {"0000266\n", api.ErrSyntax}, {"10000266\n", api.ErrSyntax}, {"1;000266\n", api.ErrSyntax}, {"1;00002666\n", api.ErrSyntax},
		{"1;000026a\n", api.ErrSyntax}, {"1;-000266\n", api.ErrSyntax}, {"1;0000266 \n", api.ErrSyntax}, {"1;0000266\r\n", api.ErrSyntax}, {"1;00002٣\n", api.ErrSyntax}, {"1:0000266\n", api.ErrSyntax}, {";\n", api.ErrSyntax},
		{"1;0000267\n", api.ErrCheck}, {";0000000\n", api.ErrCheck}, {";9999991\n", api.ErrCheck}, {"1 undo;0000000\n", api.ErrCheck}, {"\x00;0000007\n", api.ErrCheck}, {";9999998\n", api.ErrCheck},
		{"1;0000266\n", api.ErrSyntax}, {";0000007\n", api.ErrSyntax}, {"11;0008295\n", api.ErrSyntax},
	} {
		for _, rest := range []string{"", "x", recordOf(event("1 undo")), "\n"} {
			if rest != "" && example.e == api.ErrTorn {
				continue
			}
			checkRecover(t, example.end+rest, nil, 0, example.e)
			checkRecover(t, logOf(chapterEvents())+example.end+rest, chapterEvents(), len(logOf(chapterEvents())), example.e)
		}
	}
}

// Bodies with the right check sum that are no bodies of events, or have the wrong Number.
func TestBodiesInLogs(t *testing.T) {
	for _, body := range []string{
		"1", "1 ", " undo", "undo", "01 undo", "+1 undo", "-1 undo", "x undo", "1  undo", "1 undo ", "1 undo x", "1 Undo", "1 sling a", "1 note", "0 undo", "1001 undo", "1000000000 undo", "1 undo;", ";1 undo", "1\tundo",
		"1 fail a", "1 fail a 01", "1 fail a -1", "1 fail a 1000000000", "1 fail 1 1", "1 fail a; 1", "1 fail " + strings.Repeat("a", 25) + " 1", "1 fail  1", "1 fail a 1 ", "1 make a b 1 1", "1 make a b 1 1 1 1",
		"1 undo;" + sumOf("1 undo"), "1 undo\r",
	} {
		checkRecover(t, summed(body), nil, 0, api.ErrSyntax)
		checkRecover(t, logOf(chapterEvents())+summed(body), chapterEvents(), len(logOf(chapterEvents())), api.ErrSyntax)
	}
	for _, body := range []string{"2 undo", "1000 undo", "3 fail a 1"} {
		checkRecover(t, summed(body), nil, 0, api.ErrOrder)
	}
	for _, body := range []string{"1 undo", "3 fail a 1", "5 undo", "1000 undo"} {
		checkRecover(t, logOf(chapterEvents())+summed(body)+summed("4 undo"), chapterEvents(), len(logOf(chapterEvents())), api.ErrOrder)
	}
	full := logOf(fullEvents())
	checkRecover(t, full+summed("1001 undo"), fullEvents(), len(full), api.ErrSyntax)
	checkRecover(t, full+summed("1000 undo"), fullEvents(), len(full), api.ErrOrder)
}

func TestLongLogs(t *testing.T) {
	log := logOf(chapterEvents())
	for _, filler := range []string{" ", "\n", ";", "9", "1 undo", log} {
		long := (log + strings.Repeat(filler, api.MaxLog))[:api.MaxLog]
		wanted := map[string]api.Errno{"\n": api.ErrSyntax, log: api.ErrOrder}[filler]
		if wanted == api.OK {
			wanted = api.ErrTorn
		}
		checkRecover(t, long, chapterEvents(), len(log), wanted)
		checkRecover(t, long+"\n", nil, 0, api.ErrLong)
		checkRecover(t, long+log, nil, 0, api.ErrLong)
		session, e := record.Load(long + "\n")
		sameResult(t, session == nil, e, true, api.ErrLong)
	}
}

// randomText returns a log that is often changed in some places.
func randomText(source *rand.Rand) string {
	text := []byte(logOf(randomEvents(source, 6)))
	for range source.Intn(3) {
		if len(text) == 0 {
			break
		}
		at := source.Intn(len(text))
		switch source.Intn(4) {
		case 0:
			text[at] = pick(source, []byte("019; \nab"))
		case 1:
			text = append(text[:at], text[at+1:]...)
		case 2:
			text = text[:at]
		case 3:
			text = append([]byte{}, append(text[:at:at], append([]byte("\n"), text[at:]...)...)...)
		}
	}
	return string(text)
}

func TestRandomTexts(t *testing.T) {
	source := seeded()
	seen := map[api.Errno]int{}
	for range 3000 {
		text := randomText(source)
		l, length, e := recovered(text)
		checkRecover(t, text, l, length, e)
		seen[e]++
	}
	for _, e := range []api.Errno{api.OK, api.ErrTorn, api.ErrSyntax, api.ErrCheck} {
		same(t, seen[e] > 50, true, e, seen)
	}
}
