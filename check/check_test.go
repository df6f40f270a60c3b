package check_test

import (
	"math"
	"strings"
	"testing"

	"becket/api"
	"becket/check"
)

func same(t *testing.T, got, wanted api.Errno, what ...any) {
	t.Helper()
	if got != wanted {
		t.Errorf("%v: got %d, want %d", what, got, wanted)
	}
}

func TestFirst(t *testing.T) {
	same(t, check.First(), api.OK)
	same(t, check.First(api.OK, api.OK), api.OK)
	same(t, check.First(api.OK, api.ErrTorn, api.OK, api.ErrForm), api.ErrTorn)
	same(t, check.First(check.That(true, api.ErrTorn), check.That(false, api.ErrKind)), api.ErrKind)
}

func TestEach(t *testing.T) {
	examined := 0
	code := check.Each([]int{0, 0, 5, 3}, func(x int) api.Errno { examined++; return api.Errno(x) })
	same(t, code, 5)
	if examined != 3 {
		t.Errorf("%d elements were examined, not 3", examined)
	}
	same(t, check.Each(nil, func(x int) api.Errno { return api.ErrForm }), api.OK)
}

func TestAscending(t *testing.T) {
	own := func(x int) api.Errno { return check.That(x < 10, api.ErrForm) }
	ascends := func(before, next int) bool { return next > before }
	for _, example := range []struct {
		list []int
		e    api.Errno
	}{
		{nil, api.OK}, {[]int{5}, api.OK}, {[]int{-5, 0, 9}, api.OK}, {[]int{10}, api.ErrForm}, {[]int{1, 2, 10, 0}, api.ErrForm}, {[]int{1, 1}, api.ErrOrder}, {[]int{2, 1, 10}, api.ErrOrder},
		{[]int{11, 10}, api.ErrForm}, {[]int{3, 4, 4}, api.ErrOrder},
	} {
		same(t, check.Ascending(example.list, own, ascends), example.e, example.list)
	}
}

func TestRange(t *testing.T) {
	for _, value := range []int{2, 3, 5} {
		same(t, check.Range(value, 2, 5), api.OK, value)
	}
	for _, value := range []int{1, 6, math.MinInt, math.MaxInt} {
		same(t, check.Range(value, 2, 5), api.ErrRange, value)
	}
}

func TestName(t *testing.T) {
	for _, name := range []string{"a", "Z_9", strings.Repeat("a", 24)} {
		same(t, check.Name(name), api.OK, name)
	}
	for _, name := range []string{"", "9", "a b", strings.Repeat("a", 25)} {
		same(t, check.Name(name), api.ErrName, name)
	}
}

func TestSigns(t *testing.T) {
	for _, row := range []struct {
		text                     api.Rat
		positive, fromZero, part api.Errno
	}{
		{"1", api.OK, api.OK, api.OK}, {"1/7", api.OK, api.OK, api.OK}, {"8/7", api.OK, api.OK, api.ErrRange}, {"2", api.OK, api.OK, api.ErrRange},
		{"0", api.ErrRange, api.OK, api.OK}, {"-1/7", api.ErrRange, api.ErrRange, api.ErrRange}, {"-2", api.ErrRange, api.ErrRange, api.ErrRange},
		{"", api.ErrForm, api.ErrForm, api.ErrForm}, {"-2/4", api.ErrForm, api.ErrForm, api.ErrForm}, {"4/2", api.ErrForm, api.ErrForm, api.ErrForm},
		{api.Rat(strings.Repeat("9", 601)), api.ErrLarge, api.ErrLarge, api.ErrLarge},
	} {
		same(t, check.Positive(row.text), row.positive, row.text)
		same(t, check.FromZero(row.text), row.fromZero, row.text)
		same(t, check.Part(row.text), row.part, row.text)
	}
}

func TestBroken(t *testing.T) {
	asked := 0
	rule := func(holds bool) func() bool {
		return func() bool { asked++; return holds }
	}
	for _, example := range []struct {
		rules         []func() bool
		broken, asked int
	}{
		{nil, 0, 0}, {[]func() bool{rule(true)}, 0, 1}, {[]func() bool{rule(false)}, 1, 1}, {[]func() bool{rule(true), rule(true)}, 0, 2},
		{[]func() bool{rule(true), rule(false), rule(false), rule(true)}, 2, 2},
	} {
		asked = 0
		if broken := check.Broken(example.rules...); broken != example.broken || asked != example.asked {
			t.Errorf("rule %d after %d are asked, want %d after %d", broken, asked, example.broken, example.asked)
		}
	}
}
