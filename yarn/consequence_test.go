package yarn_test

import (
	"math"
	"math/rand"
	"slices"
	"strings"
	"testing"

	"becket/api"
	"becket/yarn"
)

// The tests of P2.6, and of the rules that hold everywhere.

func TestCountsLeadBack(t *testing.T) {
	source := seeded()
	for range 300 {
		from, to := randomSystem(source), randomSystem(source)
		count := rat(positiveRat(source, 500))
		converted, e1 := yarn.Convert(from, to, count)
		back, e2 := yarn.Convert(to, from, converted)
		same(t, []any{back, e1, e2}, []any{count, api.OK, api.OK}, from, to)
		density, e1 := yarn.Density(from, count)
		back, e2 = yarn.Count(from, density)
		same(t, []any{back, e1, e2}, []any{count, api.OK, api.OK}, from)
		through, e := yarn.Count(to, density)
		same(t, []any{through, e}, []any{converted, api.OK}, from, to)
		y := strand(density, "1")
		mass, e1 := yarn.Mass(y, "7/3")
		length, e2 := yarn.Length(y, mass)
		same(t, []any{length, e1, e2}, []any{api.Rat("7/3"), api.OK, api.OK}, density)
	}
}

func TestPliesDoNotDependOnTheOrder(t *testing.T) {
	source := seeded()
	l := []yarn.Yarn{
		strand("1/"+nines(600), "1/"+ten(599)), strand("1/"+ten(599), "1/"+nines(600)),
		strand(nines(599)+"8/"+nines(600), nines(599)+"/"+ten(599)), strand(nines(599)+"/"+ten(599), nines(599)+"8/"+nines(600)), thread(),
	}
	wanted, e := yarn.Ply("p", l, "7", "1/3")
	same(t, e, api.OK)
	for range 50 {
		source.Shuffle(len(l), func(i, k int) { l[i], l[k] = l[k], l[i] })
		p, e := yarn.Ply("q", l, "7", "1/3")
		same(t, p.Name, "q")
		p.Name = "p"
		same(t, []any{p, e}, []any{wanted, api.OK})
	}
}

// model is a store that is kept in maps.
type model struct {
	day             int
	stock           map[string]int
	wares           map[string][2]string
	reserved, taken map[[2]string]int
}

func (m *model) free(lot string) int {
	free := m.stock[lot]
	for claim, amount := range m.reserved {
		if claim[0] == lot {
			free -= amount
		}
	}
	return free
}

// refusal returns the rule that refuses an entry; the limits of rule 5 are not reached in random logs.
func (m *model) refusal(x yarn.Entry) int {
	ware, known := m.wares[x.Lot]
	claim := [2]string{x.Lot, x.Order}
	limit := map[string]int{
		"receive": api.MaxNumber, "reserve": m.free(x.Lot), "release": m.reserved[claim],
		"take": m.free(x.Lot) + m.reserved[claim], "return": m.taken[claim],
	}
	grows := x.Kind == "receive" || x.Kind == "return"
	switch {
	case x.Day < m.day:
		return 1
	case x.Kind == "receive" && known && ware != [2]string{x.Yarn, x.Dye}, x.Kind != "receive" && !known:
		return 2
	case x.Amount > limit[x.Kind]:
		return 3
	case grows && m.stock[x.Lot]+x.Amount > api.MaxNumber, x.Kind == "take" && m.taken[claim]+x.Amount > api.MaxNumber:
		return 4
	}
	return 0
}

func (m *model) do(x yarn.Entry) {
	claim := [2]string{x.Lot, x.Order}
	m.day = x.Day
	switch x.Kind {
	case "receive":
		m.stock[x.Lot] += x.Amount
		m.wares[x.Lot] = [2]string{x.Yarn, x.Dye}
	case "reserve":
		m.reserved[claim] += x.Amount
	case "release":
		m.reserved[claim] -= x.Amount
	case "take":
		m.stock[x.Lot] -= x.Amount
		m.taken[claim] += x.Amount
		m.reserved[claim] = max(0, m.reserved[claim]-x.Amount)
	case "return":
		m.stock[x.Lot] += x.Amount
		m.taken[claim] -= x.Amount
	}
}

func (m *model) state() yarn.State {
	s := yarn.State{Day: m.day}
	claims := map[[2]string]bool{}
	for lot, ware := range m.wares {
		s.Lots = append(s.Lots, yarn.Lot{Name: lot, Yarn: ware[0], Dye: ware[1], Stock: m.stock[lot]})
	}
	for _, amounts := range []map[[2]string]int{m.reserved, m.taken} {
		for claim, amount := range amounts {
			claims[claim] = claims[claim] || amount > 0
		}
	}
	for claim, holds := range claims {
		if holds {
			s.Holds = append(s.Holds, yarn.Hold{Lot: claim[0], Order: claim[1], Reserved: m.reserved[claim], Taken: m.taken[claim]})
		}
	}
	slices.SortFunc(s.Lots, func(a, b yarn.Lot) int { return strings.Compare(a.Name, b.Name) })
	slices.SortFunc(s.Holds, func(a, b yarn.Hold) int { return strings.Compare(a.Lot+" "+a.Order, b.Lot+" "+b.Order) })
	return s
}

func randomLog(source *rand.Rand) []yarn.Entry {
	log := make([]yarn.Entry, source.Intn(80))
	day := 0
	for i := range log {
		day += source.Intn(2)
		lot := []string{"L", "M", "K9", "k"}[source.Intn(4)]
		amount := 1 + source.Intn(30)
		if source.Intn(20) == 0 {
			amount = api.MaxNumber - source.Intn(60)
		}
		if kind := source.Intn(7); kind < 4 {
			log[i] = act(orderKinds()[kind], day-source.Intn(8)/7, lot, amount, []string{"A", "B", "A1"}[source.Intn(3)])
		} else {
			log[i] = receive(day, lot, amount, "y", []string{"", "", "", "", "red"}[source.Intn(5)])
		}
		log[i].Day = max(log[i].Day, 0)
	}
	return log
}

// amounts returns what is in stock, and what has been taken.
func amounts(s yarn.State) (stock, taken int) {
	for _, lot := range s.Lots {
		stock += lot.Stock
	}
	for _, hold := range s.Holds {
		taken += hold.Taken
	}
	return stock, taken
}

func TestRandomLogs(t *testing.T) {
	source := seeded()
	for range 400 {
		log := randomLog(source)
		m := &model{0, map[string]int{}, map[string][2]string{}, map[[2]string]int{}, map[[2]string]int{}}
		var refusals []yarn.Refusal
		var kept []yarn.Entry
		var step yarn.State
		received := 0
		for i, x := range log {
			rule, e := yarn.Legal(step, x)
			same(t, []any{rule, e}, []any{m.refusal(x), api.OK}, log[:i+1])
			if rule != 0 {
				refusals = append(refusals, yarn.Refusal{Number: i + 1, Rule: rule})
				continue
			}
			m.do(x)
			step, e = yarn.Next(step, x)
			same(t, e, api.OK, log[:i+1])
			sameState(t, step, m.state(), log[:i+1])
			kept = append(kept, x)
			if x.Kind == "receive" {
				received += x.Amount
			}
			for _, lot := range step.Lots {
				free, e := yarn.Free(step, lot.Name)
				same(t, []any{free, e, free >= 0}, []any{m.free(lot.Name), api.OK, true}, log[:i+1])
			}
		}
		state, out, e := yarn.Replay(log)
		same(t, e, api.OK, log)
		sameState(t, state, step, log)
		same(t, out, refusals, log)
		again, out, e := yarn.Replay(kept)
		same(t, []any{len(out), e}, []any{0, api.OK}, kept)
		sameState(t, again, state, kept)
		stock, taken := amounts(state)
		same(t, stock+taken, received, log)
		checkUntil(t, log)
	}
}

func checkUntil(t *testing.T, log []yarn.Entry) {
	t.Helper()
	for _, day := range []int{0, 1, 7, 20, api.MaxDay} {
		early := slices.DeleteFunc(slices.Clone(log), func(x yarn.Entry) bool { return x.Day > day })
		wanted, _, _ := yarn.Replay(early)
		state, e := yarn.Until(log, day)
		same(t, e, api.OK, log)
		sameState(t, state, wanted, log, day)
	}
}

// P1: whatever the arguments are, each function returns, and an error comes with the zero value.
func TestAnyArguments(t *testing.T) {
	texts := []api.Rat{"", "0", "-1", "3/2", "x", "\xff", nines(600), "1/" + nines(600), nines(601)}
	integers := []int{math.MinInt, -1, 0, 1, api.MaxNumber, math.MaxInt}
	zero := func(e api.Errno, results ...any) {
		t.Helper()
		for _, result := range results {
			same(t, e == api.OK || result == api.Rat("") || result == 0, true, e, result)
		}
	}
	for _, a := range texts {
		for _, b := range texts {
			y := yarn.Yarn{Name: "y", Density: a, Twist: b, Strength: []api.Point{{X: b, Y: a}}}
			strength, e := yarn.Strength(y)
			zero(e, strength)
			twisted, e := yarn.Twisted(y, a)
			zero(e, twisted.Density, len(twisted.Strength))
			ply, e := yarn.Ply("p", []yarn.Yarn{y, y}, a, b)
			zero(e, ply.Density, len(ply.Strength))
			mass, e := yarn.Mass(y, b)
			zero(e, mass)
			length, e := yarn.Length(y, b)
			zero(e, length)
			for _, i := range integers {
				bobbins, e := yarn.Bobbins(y, i, b)
				zero(e, bobbins)
			}
		}
		for _, i := range integers {
			for _, k := range integers {
				s := yarn.System{Length: i, Mass: k, Direct: k > 0}
				density, e := yarn.Density(s, a)
				zero(e, density)
				count, e := yarn.Count(s, a)
				zero(e, count)
				count, e = yarn.Convert(s, yarn.System{Length: k, Mass: i}, a)
				zero(e, count)
			}
		}
	}
	for _, i := range integers {
		for _, k := range integers {
			x := yarn.Entry{Kind: "take", Day: i, Lot: "L", Amount: k, Order: "A"}
			s := yarn.State{Day: k, Lots: []yarn.Lot{{Name: "L", Yarn: "y", Stock: i}}, Holds: []yarn.Hold{{Lot: "L", Order: "A", Reserved: k, Taken: i}}}
			next, e := yarn.Next(s, x)
			zero(e, next.Day, len(next.Lots), len(next.Holds))
			free, e := yarn.Free(s, "L")
			zero(e, free)
			match, e := yarn.Match(s, "y", "", i)
			zero(e, len(match))
			state, refusals, e := yarn.Replay([]yarn.Entry{x, x})
			zero(e, state.Day, len(refusals))
		}
	}
}

// Arguments stay as they are, and results are the same on each call.
func TestArgumentsStay(t *testing.T) {
	s, lots, holds := shelf(), slices.Clone(shelf().Lots), slices.Clone(shelf().Holds)
	y, l := thread(), []yarn.Yarn{thread(), strand("1", "2")}
	for range 5 {
		next, e := yarn.Next(s, act("take", 1, "b", 4, "A"))
		same(t, e, api.OK)
		same(t, next.Holds[0], yarn.Hold{Lot: "b", Order: "A", Reserved: 3, Taken: 4})
		next, e = yarn.Next(s, act("release", 1, "b", 7, "A"))
		same(t, []any{len(next.Holds), e}, []any{3, api.OK})
		next, e = yarn.Next(s, receive(1, "aa", 4, "y", ""))
		same(t, []any{next.Lots[1].Name, e}, []any{"aa", api.OK})
		match, e := yarn.Match(s, "y", "", 70)
		same(t, []any{match, e}, []any{[]int{0, 1}, api.OK})
		p, e := yarn.Ply("p", l, "5", "1/2")
		same(t, []any{p.Density, p.Strength[0].Y, e}, []any{api.Rat("21/10"), api.Rat("16"), api.OK})
		twisted, _ := yarn.Twisted(y, "5")
		twisted.Strength[1].X, p.Strength[0].X = "1", "1"
	}
	same(t, s, yarn.State{Lots: lots, Holds: holds})
	same(t, []any{y, l}, []any{thread(), []yarn.Yarn{thread(), strand("1", "2")}})
}
