package yarn_test

import (
	"math"
	"slices"
	"strconv"
	"strings"
	"testing"

	"becket/api"
	"becket/yarn"
)

// The tests of P2.4.

func receive(day int, lot string, amount int, ware, dye string) yarn.Entry {
	return yarn.Entry{Kind: "receive", Day: day, Lot: lot, Amount: amount, Yarn: ware, Dye: dye}
}

func act(kind string, day int, lot string, amount int, order string) yarn.Entry {
	return yarn.Entry{Kind: kind, Day: day, Lot: lot, Amount: amount, Order: order}
}

// orderKinds are the kinds of entries for an order.
func orderKinds() []string {
	return []string{"reserve", "release", "take", "return"}
}

// entryFaults returns the faults that entries of each kind may have, in the order of their errors.
func entryFaults() []fault[yarn.Entry] {
	var faults []fault[yarn.Entry]
	add := func(e api.Errno, change func(x *yarn.Entry)) { faults = append(faults, fault[yarn.Entry]{change, e}) }
	for _, kind := range []string{"", "give", "Receive", "receive ", "takes"} {
		add(api.ErrKind, func(x *yarn.Entry) { x.Kind = kind })
	}
	for _, day := range []int{-1, 100000, math.MinInt, math.MaxInt} {
		add(api.ErrRange, func(x *yarn.Entry) { x.Day = day })
	}
	for _, amount := range []int{0, -1, 1000000000, math.MinInt, math.MaxInt} {
		add(api.ErrRange, func(x *yarn.Entry) { x.Amount = amount })
	}
	for _, name := range append(badNames(), "") {
		add(api.ErrName, func(x *yarn.Entry) { x.Lot = name })
	}
	return faults
}

func receivedFaults() []fault[yarn.Entry] {
	faults := entryFaults()
	for _, name := range append(badNames(), "") {
		faults = append(faults, fault[yarn.Entry]{func(x *yarn.Entry) { x.Yarn = name }, api.ErrName})
	}
	for _, name := range badNames() {
		faults = append(faults, fault[yarn.Entry]{func(x *yarn.Entry) { x.Dye = name }, api.ErrName})
	}
	for _, text := range []string{"A", " ", "\xff"} {
		faults = append(faults, fault[yarn.Entry]{func(x *yarn.Entry) { x.Order = text }, api.ErrForm})
	}
	return faults
}

func orderedFaults() []fault[yarn.Entry] {
	faults := entryFaults()
	for _, name := range append(badNames(), "") {
		faults = append(faults, fault[yarn.Entry]{func(x *yarn.Entry) { x.Order = name }, api.ErrName})
	}
	for _, text := range []string{"y", " "} {
		faults = append(faults, fault[yarn.Entry]{func(x *yarn.Entry) { x.Yarn = text }, api.ErrForm})
		faults = append(faults, fault[yarn.Entry]{func(x *yarn.Entry) { x.Dye = text }, api.ErrForm})
	}
	return faults
}

func TestCheckEntry(t *testing.T) {
	for _, dye := range []string{"", "red", strings.Repeat("r", 24)} {
		checkFaults(t, func() yarn.Entry { return receive(0, "L", 1, "y", dye) }, receivedFaults(), yarn.CheckEntry)
	}
	for _, kind := range orderKinds() {
		checkFaults(t, func() yarn.Entry { return act(kind, api.MaxDay, "L", api.MaxNumber, "A") }, orderedFaults(), yarn.CheckEntry)
	}
}

func TestCheckLog(t *testing.T) {
	good := slices.Repeat([]yarn.Entry{receive(1, "L", 1, "y", "")}, 1000)
	same(t, yarn.CheckLog(good), api.OK)
	same(t, yarn.CheckLog(nil), api.OK)
	same(t, yarn.CheckLog(append(good, good[0])), api.ErrMany)
	same(t, yarn.CheckLog(make([]yarn.Entry, 1001)), api.ErrMany)
	for _, e := range []api.Errno{api.ErrKind, api.ErrName} {
		bad := slices.Clone(good)
		bad[700].Kind, bad[999].Lot = "", ""
		if e == api.ErrName {
			bad[600].Lot = ""
		}
		same(t, yarn.CheckLog(bad), e)
		state, refusals, code := yarn.Replay(bad)
		sameState(t, state, yarn.State{})
		same(t, []any{len(refusals), code}, []any{0, e})
		for _, day := range []int{-1, 1, api.MaxDay} {
			state, code = yarn.Until(bad, day)
			sameState(t, state, yarn.State{})
			same(t, code, e)
		}
	}
	state, refusals, e := yarn.Replay(append(good, good[0]))
	sameState(t, state, yarn.State{})
	same(t, []any{len(refusals), e}, []any{0, api.ErrMany})
	for _, day := range []int{-1, api.MaxDay + 1, math.MinInt, math.MaxInt} {
		state, e = yarn.Until(good, day)
		sameState(t, state, yarn.State{})
		same(t, e, api.ErrRange, day)
	}
}

// stocked returns a state with two lots and three holds.
func stocked() yarn.State {
	return yarn.State{
		Day:   3,
		Lots:  []yarn.Lot{{Name: "K", Yarn: "y", Stock: 5}, {Name: "L", Yarn: "y", Dye: "red", Stock: 30}},
		Holds: []yarn.Hold{{Lot: "K", Order: "B", Reserved: 5}, {Lot: "L", Order: "A", Reserved: 10, Taken: 70}, {Lot: "L", Order: "B", Taken: 1}},
	}
}

// manyLots returns so many lots, with 100 grams each.
func manyLots(count int) []yarn.Lot {
	lots := make([]yarn.Lot, count)
	for i := range lots {
		lots[i] = yarn.Lot{Name: "L" + strconv.Itoa(100+i), Yarn: "y", Stock: 100}
	}
	return lots
}

// manyHolds returns so many holds of the first ones of these lots, 60 of each one.
func manyHolds(count int) []yarn.Hold {
	holds := make([]yarn.Hold, count)
	for i := range holds {
		holds[i] = yarn.Hold{Lot: "L" + strconv.Itoa(100+i/60), Order: "A" + strconv.Itoa(100+i%60), Reserved: 1}
	}
	return holds
}

func TestCheckState(t *testing.T) {
	var faults []fault[yarn.State]
	add := func(e api.Errno, change func(s *yarn.State)) { faults = append(faults, fault[yarn.State]{change, e}) }
	for _, day := range []int{-1, 100000, math.MinInt, math.MaxInt} {
		add(api.ErrRange, func(s *yarn.State) { s.Day = day })
	}
	add(api.ErrMany, func(s *yarn.State) { s.Lots = manyLots(65) })
	add(api.ErrMany, func(s *yarn.State) { s.Lots = make([]yarn.Lot, 70) })
	for _, name := range append(badNames(), "") {
		add(api.ErrName, func(s *yarn.State) { s.Lots[0].Name = name })
		add(api.ErrName, func(s *yarn.State) { s.Lots[0].Yarn = name })
	}
	for _, name := range badNames() {
		add(api.ErrName, func(s *yarn.State) { s.Lots[0].Dye = name })
	}
	for _, stock := range []int{-1, 1000000000, math.MinInt, math.MaxInt} {
		add(api.ErrRange, func(s *yarn.State) { s.Lots[0].Stock = stock })
	}
	add(api.ErrName, func(s *yarn.State) { s.Lots = []yarn.Lot{{Name: "K", Yarn: "y"}, {Name: "A", Yarn: "", Stock: -1}} })
	add(api.ErrName, func(s *yarn.State) {
		s.Lots = []yarn.Lot{{Name: "K", Yarn: "y"}, {Name: "A", Yarn: "y", Dye: "-", Stock: -1}}
	})
	for _, name := range []string{"K", "A", "Jz", "J_", "B9"} {
		add(api.ErrOrder, func(s *yarn.State) {
			s.Lots = []yarn.Lot{{Name: "K", Yarn: "y"}, {Name: name, Yarn: "y", Stock: -1}, {}}
		})
	}
	add(api.ErrMany, func(s *yarn.State) { s.Holds = make([]yarn.Hold, 257) })
	add(api.ErrMany, func(s *yarn.State) { s.Lots, s.Holds = manyLots(64), manyHolds(257) })
	for _, name := range []string{"M", "", "k", "KL", "\xff"} {
		add(api.ErrUnknown, func(s *yarn.State) { s.Holds = []yarn.Hold{{Lot: name}} })
	}
	for _, name := range append(badNames(), "") {
		add(api.ErrName, func(s *yarn.State) { s.Holds = []yarn.Hold{{Lot: "K", Order: "B", Taken: 1}, {Lot: "K", Order: name}} })
	}
	for _, hold := range []yarn.Hold{{Lot: "L", Order: "B"}, {Lot: "L", Order: "A", Taken: 1}, {Lot: "K", Order: "C", Taken: 1}, {Lot: "L", Order: "Az", Taken: -1}} {
		add(api.ErrOrder, func(s *yarn.State) { s.Holds = []yarn.Hold{{Lot: "L", Order: "B", Taken: 1}, hold, {}} })
	}
	for _, amount := range []int{-1, 1000000000, math.MinInt, math.MaxInt} {
		add(api.ErrRange, func(s *yarn.State) { s.Holds = []yarn.Hold{{Lot: "K", Order: "B", Reserved: amount}, {}} })
		add(api.ErrRange, func(s *yarn.State) { s.Holds = []yarn.Hold{{Lot: "K", Order: "B", Taken: amount}, {}} })
	}
	add(api.ErrZero, func(s *yarn.State) { s.Holds = []yarn.Hold{{Lot: "K", Order: "B"}, {}} })
	add(api.ErrStock, func(s *yarn.State) { s.Holds = []yarn.Hold{{Lot: "L", Order: "B", Reserved: 31}} })
	add(api.ErrStock, func(s *yarn.State) {
		s.Holds = []yarn.Hold{{Lot: "L", Order: "A", Reserved: 15}, {Lot: "L", Order: "B", Reserved: 16, Taken: 99}}
	})
	checkStateFaults(t, faults)
	for i, s := range []yarn.State{
		{}, {Day: api.MaxDay}, {Lots: manyLots(64), Holds: manyHolds(256)}, stocked(),
		{Lots: []yarn.Lot{{Name: "B", Yarn: "y", Stock: api.MaxNumber}, {Name: "a", Yarn: "y"}}, Holds: []yarn.Hold{{Lot: "B", Order: "A", Reserved: api.MaxNumber, Taken: api.MaxNumber}}},
		{Lots: []yarn.Lot{{Name: "A", Yarn: "y"}, {Name: "A1", Yarn: "y"}, {Name: "A_", Yarn: "y"}, {Name: "Aa", Yarn: "y"}}},
		{Lots: []yarn.Lot{{Name: "L", Yarn: "y"}}, Holds: []yarn.Hold{{Lot: "L", Order: "B", Taken: 1}, {Lot: "L", Order: "B1", Taken: 1}, {Lot: "L", Order: "a", Taken: 1}}},
	} {
		same(t, yarn.CheckState(s), api.OK, i)
	}
}

// checkStateFaults checks each fault in all functions that take a state, and those of different parts of a state (the
// day, the lots, the holds) together.
func checkStateFaults(t *testing.T, faults []fault[yarn.State]) {
	t.Helper()
	for i, bad := range faults {
		s := stocked()
		bad.make(&s)
		got := []api.Errno{yarn.CheckState(s)}
		rule, e := yarn.Legal(s, yarn.Entry{})
		got = append(got, e)
		next, e := yarn.Next(s, yarn.Entry{})
		got = append(got, e)
		free, e := yarn.Free(s, "")
		got = append(got, e)
		stock, all, e := yarn.Stock(s, "", "1")
		got = append(got, e)
		match, e := yarn.Match(s, "", "1", -1)
		got = append(got, e)
		same(t, got, slices.Repeat([]api.Errno{bad.e}, 6), "state", i)
		sameState(t, next, yarn.State{})
		same(t, []int{rule, free, stock, all, len(match)}, []int{0, 0, 0, 0, 0}, "state", i)
	}
	for _, day := range []int{-1, 5} {
		for _, lots := range [][]yarn.Lot{manyLots(65), {{}}, {{Name: "K", Yarn: "y", Stock: -1}}, stocked().Lots} {
			for _, holds := range [][]yarn.Hold{make([]yarn.Hold, 257), {{}}, {{Lot: "K", Order: "A", Reserved: 6}}} {
				wanted := yarn.CheckState(yarn.State{Lots: lots})
				if day < 0 {
					wanted = api.ErrRange
				} else if wanted == api.OK {
					wanted = yarn.CheckState(yarn.State{Lots: stocked().Lots, Holds: holds})
				}
				same(t, wanted != api.OK, true, day, lots, holds)
				same(t, yarn.CheckState(yarn.State{Day: day, Lots: lots, Holds: holds}), wanted, day, lots, holds)
			}
		}
	}
}

func TestErrorsOfEntriesInAState(t *testing.T) {
	check := func(x yarn.Entry) api.Errno {
		rule, e1 := yarn.Legal(stocked(), x)
		next, e2 := yarn.Next(stocked(), x)
		if e1 != api.OK {
			same(t, []any{rule, e2}, []any{0, e1}, x)
			sameState(t, next, yarn.State{})
		}
		return e1
	}
	checkFaults(t, func() yarn.Entry { return receive(3, "L", 1, "y", "red") }, receivedFaults(), check)
	for _, kind := range orderKinds() {
		checkFaults(t, func() yarn.Entry { return act(kind, 3, "L", 1, "A") }, orderedFaults(), check)
	}
}

// ruled is an entry with the rule that refuses it.
type ruled struct {
	x    yarn.Entry
	rule int
}

func checkRules(t *testing.T, s yarn.State, rows []ruled) {
	t.Helper()
	for i, row := range rows {
		rule, e := yarn.Legal(s, row.x)
		same(t, []any{rule, e}, []any{row.rule, api.OK}, i, row.x)
		next, e := yarn.Next(s, row.x)
		if row.rule != 0 {
			same(t, e, api.ErrRule, i, row.x)
			sameState(t, next, yarn.State{}, i, row.x)
			continue
		}
		same(t, e, api.OK, i, row.x)
		same(t, yarn.CheckState(next), api.OK, i, row.x)
	}
}

func TestRules(t *testing.T) {
	s := yarn.State{
		Day: 2, Lots: []yarn.Lot{{Name: "L", Yarn: "y", Dye: "red", Stock: 100}, {Name: "M", Yarn: "z", Stock: 7}},
		Holds: []yarn.Hold{{Lot: "L", Order: "A", Reserved: 60, Taken: 5}, {Lot: "M", Order: "A", Taken: 9}},
	}
	checkRules(t, s, []ruled{
		{receive(1, "L", 1, "y", "red"), 1}, {receive(1, "L", 1, "z", "red"), 1}, {act("take", 1, "N", 999, "A"), 1}, {receive(0, "N", 1, "y", ""), 1},
		{receive(2, "L", 1, "z", "red"), 2}, {receive(2, "L", 1, "y", ""), 2}, {receive(2, "L", 1, "y", "blue"), 2}, {receive(2, "M", 1, "z", "red"), 2},
		{receive(2, "L", api.MaxNumber, "z", "red"), 2}, {receive(2, "M", 1, "z", ""), 0}, {receive(3, "N", api.MaxNumber, "q", "red"), 0},
		{act("reserve", 2, "N", 1, "A"), 2}, {act("release", 2, "N", 1, "A"), 2}, {act("take", 2, "N", 1, "A"), 2}, {act("return", 2, "N", 1, "A"), 2},
		{act("reserve", 2, "L", 40, "A"), 0}, {act("reserve", 2, "L", 41, "A"), 3}, {act("reserve", 2, "L", 40, "B"), 0}, {act("reserve", 2, "L", 41, "B"), 3},
		{act("reserve", 2, "M", 7, "B"), 0}, {act("reserve", 2, "M", 8, "B"), 3},
		{act("release", 2, "L", 60, "A"), 0}, {act("release", 2, "L", 61, "A"), 3}, {act("release", 2, "L", 1, "B"), 3}, {act("release", 2, "M", 1, "A"), 3},
		{act("take", 2, "L", 100, "A"), 0}, {act("take", 2, "L", 101, "A"), 3}, {act("take", 2, "L", 40, "B"), 0}, {act("take", 2, "L", 41, "B"), 3},
		{act("return", 2, "L", 5, "A"), 0}, {act("return", 2, "L", 6, "A"), 3}, {act("return", 2, "L", 1, "B"), 3}, {act("return", 2, "M", 9, "A"), 0},
		{act("return", 2, "M", 10, "A"), 3}, {receive(2, "L", 999999899, "y", "red"), 0}, {receive(2, "L", 999999900, "y", "red"), 4},
		{receive(api.MaxDay, "L", api.MaxNumber, "y", "red"), 4},
	})
	full := yarn.State{
		Lots:  []yarn.Lot{{Name: "L", Yarn: "y", Stock: api.MaxNumber - 1}, {Name: "M", Yarn: "y", Stock: 10}},
		Holds: []yarn.Hold{{Lot: "L", Order: "A", Taken: 5}, {Lot: "M", Order: "A", Taken: api.MaxNumber - 4}},
	}
	checkRules(t, full, []ruled{
		{act("return", 0, "L", 1, "A"), 0}, {act("return", 0, "L", 2, "A"), 4}, {act("return", 0, "L", 6, "A"), 3}, {receive(0, "L", 2, "y", ""), 4},
		{act("take", 0, "M", 4, "A"), 0}, {act("take", 0, "M", 5, "A"), 4}, {act("take", 0, "M", 11, "A"), 3}, {act("take", 0, "M", 10, "B"), 0},
	})
	crowded := yarn.State{Lots: manyLots(64), Holds: manyHolds(256)}
	crowded.Lots[0].Stock = api.MaxNumber
	checkRules(t, crowded, []ruled{
		{receive(0, "L200", 1, "y", ""), 5}, {receive(0, "A", api.MaxNumber, "y", ""), 5}, {receive(0, "L163", 1, "y", ""), 0}, {receive(0, "L100", 1, "y", ""), 4},
		{act("reserve", 0, "L163", 1, "A100"), 5}, {act("take", 0, "L163", 1, "A100"), 5}, {act("take", 0, "L163", 101, "A100"), 3},
		{act("reserve", 0, "L100", 1, "A100"), 0}, {act("take", 0, "L100", 1, "A100"), 0}, {act("release", 0, "L100", 1, "A100"), 0},
	})
	crowded.Lots, crowded.Holds = crowded.Lots[:63], crowded.Holds[:255]
	checkRules(t, crowded, []ruled{
		{receive(0, "L200", 1, "y", ""), 0}, {act("reserve", 0, "L162", 1, "A100"), 0}, {act("take", 0, "L162", 1, "A100"), 0},
	})
}

func TestNext(t *testing.T) {
	begin := yarn.State{
		Day: 2, Lots: []yarn.Lot{{Name: "L", Yarn: "y", Dye: "red", Stock: 100}}, Holds: []yarn.Hold{{Lot: "L", Order: "B", Reserved: 60}},
	}
	hold := func(order string, reserved, taken int) yarn.Hold {
		return yarn.Hold{Lot: "L", Order: order, Reserved: reserved, Taken: taken}
	}
	for i, row := range []struct {
		x     yarn.Entry
		stock int
		holds []yarn.Hold
	}{
		{act("reserve", 2, "L", 40, "A"), 100, []yarn.Hold{hold("A", 40, 0), hold("B", 60, 0)}},
		{act("reserve", 3, "L", 7, "B"), 100, []yarn.Hold{hold("B", 67, 0)}},
		{act("release", 4, "L", 59, "B"), 100, []yarn.Hold{hold("B", 1, 0)}}, {act("release", 4, "L", 60, "B"), 100, nil},
		{act("take", 5, "L", 40, "C"), 60, []yarn.Hold{hold("B", 60, 0), hold("C", 0, 40)}},
		{act("take", 5, "L", 59, "B"), 41, []yarn.Hold{hold("B", 1, 59)}}, {act("take", 5, "L", 60, "B"), 40, []yarn.Hold{hold("B", 0, 60)}},
		{act("take", 5, "L", 70, "B"), 30, []yarn.Hold{hold("B", 0, 70)}}, {act("take", 5, "L", 100, "B"), 0, []yarn.Hold{hold("B", 0, 100)}},
		{receive(api.MaxDay, "L", 5, "y", "red"), 105, []yarn.Hold{hold("B", 60, 0)}},
	} {
		next, e := yarn.Next(begin, row.x)
		same(t, e, api.OK, i)
		sameState(t, next, yarn.State{Day: row.x.Day, Lots: []yarn.Lot{{Name: "L", Yarn: "y", Dye: "red", Stock: row.stock}}, Holds: row.holds}, i)
		next.Lots[0].Stock = -1
		if len(next.Holds) > 0 {
			next.Holds[0].Reserved = -1
		}
		same(t, []int{begin.Lots[0].Stock, begin.Holds[0].Reserved, len(begin.Holds)}, []int{100, 60, 1}, "shared memory", i)
	}
	taken, _ := yarn.Next(begin, act("take", 2, "L", 70, "B"))
	back, e := yarn.Next(taken, act("return", 2, "L", 69, "B"))
	same(t, e, api.OK)
	sameState(t, back, yarn.State{Day: 2, Lots: []yarn.Lot{{Name: "L", Yarn: "y", Dye: "red", Stock: 99}}, Holds: []yarn.Hold{hold("B", 0, 1)}})
	back, e = yarn.Next(back, act("return", 2, "L", 1, "B"))
	same(t, e, api.OK)
	sameState(t, back, yarn.State{Day: 2, Lots: begin.Lots})
	for i, name := range []string{"K", "L1", "Z", "l", "A_9"} {
		more, e := yarn.Next(begin, receive(2, name, i+1, "z", ""))
		lots := append(slices.Clone(begin.Lots), yarn.Lot{Name: name, Yarn: "z", Stock: i + 1})
		slices.SortFunc(lots, func(a, b yarn.Lot) int { return strings.Compare(a.Name, b.Name) })
		same(t, e, api.OK, name)
		sameState(t, more, yarn.State{Day: 2, Lots: lots, Holds: begin.Holds}, name)
	}
}

func TestReplayAndUntil(t *testing.T) {
	log := []yarn.Entry{
		receive(1, "L", 100, "y", "red"), act("reserve", 2, "L", 60, "A"), act("take", 3, "L", 200, "A"), receive(3, "K", 7, "z", ""),
		act("reserve", 1, "L", 1, "A"), act("take", 4, "K", 7, "C"), act("take", 9, "L", 70, "A"), receive(5, "L", 1, "y", "red"), receive(9, "L", 1, "y", "blue"),
	}
	kept := slices.Clone(log)
	lots := func(k, l int) []yarn.Lot {
		return []yarn.Lot{{Name: "K", Yarn: "z", Stock: k}, {Name: "L", Yarn: "y", Dye: "red", Stock: l}}
	}
	state, refusals, e := yarn.Replay(log)
	same(t, e, api.OK)
	same(t, refusals, []yarn.Refusal{{Number: 3, Rule: 3}, {Number: 5, Rule: 1}, {Number: 8, Rule: 1}, {Number: 9, Rule: 2}})
	sameState(t, state, yarn.State{Day: 9, Lots: lots(0, 30), Holds: []yarn.Hold{{Lot: "K", Order: "C", Taken: 7}, {Lot: "L", Order: "A", Taken: 70}}})
	for _, row := range []struct {
		day    int
		wanted yarn.State
	}{
		{0, yarn.State{}}, {1, yarn.State{Day: 1, Lots: lots(0, 100)[1:], Holds: []yarn.Hold{{Lot: "L", Order: "A", Reserved: 1}}}},
		{2, yarn.State{Day: 2, Lots: lots(0, 100)[1:], Holds: []yarn.Hold{{Lot: "L", Order: "A", Reserved: 60}}}},
		{3, yarn.State{Day: 3, Lots: lots(7, 100), Holds: []yarn.Hold{{Lot: "L", Order: "A", Reserved: 60}}}},
		{4, yarn.State{Day: 4, Lots: lots(0, 100), Holds: []yarn.Hold{{Lot: "K", Order: "C", Taken: 7}, {Lot: "L", Order: "A", Reserved: 60}}}},
		{8, yarn.State{Day: 5, Lots: lots(0, 101), Holds: []yarn.Hold{{Lot: "K", Order: "C", Taken: 7}, {Lot: "L", Order: "A", Reserved: 60}}}},
		{9, state}, {api.MaxDay, state},
	} {
		got, e := yarn.Until(log, row.day)
		same(t, e, api.OK, row.day)
		sameState(t, got, row.wanted, row.day)
	}
	same(t, log, kept, "the argument")
	state, refusals, e = yarn.Replay(nil)
	same(t, []any{len(refusals), e}, []any{0, api.OK})
	sameState(t, state, yarn.State{})
}

// A log may be longer than a state is wide: what comes after the last lot or hold is set aside by rule 5.
func TestReplayToTheLimits(t *testing.T) {
	var log []yarn.Entry
	for _, lot := range manyLots(70) {
		log = append(log, receive(1, lot.Name, 100, "y", ""))
	}
	for _, hold := range manyHolds(260) {
		log = append(log, act("reserve", 1, hold.Lot, 1, hold.Order))
	}
	state, refusals, e := yarn.Replay(log)
	same(t, e, api.OK)
	sameState(t, state, yarn.State{Day: 1, Lots: manyLots(64), Holds: manyHolds(256)})
	var wanted []yarn.Refusal
	for _, number := range []int{65, 66, 67, 68, 69, 70, 327, 328, 329, 330} {
		wanted = append(wanted, yarn.Refusal{Number: number, Rule: 5})
	}
	same(t, refusals, wanted)
}
