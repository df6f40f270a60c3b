package yarn_test

import (
	"math"
	"math/rand"
	"slices"
	"strconv"
	"testing"

	"becket/api"
	"becket/yarn"
)

// The tests of P2.5.

// shelf returns the lots of the chapter's example, one of them partly reserved, with another ware between them.
func shelf() yarn.State {
	return yarn.State{
		Lots: []yarn.Lot{
			{Name: "a", Yarn: "y", Stock: 30}, {Name: "b", Yarn: "y", Stock: 60}, {Name: "b1", Yarn: "y", Dye: "red", Stock: 500},
			{Name: "c", Yarn: "y", Stock: 20}, {Name: "c1", Yarn: "z", Stock: 500}, {Name: "d", Yarn: "y", Stock: 50}, {Name: "e", Yarn: "y"},
		},
		Holds: []yarn.Hold{
			{Lot: "b", Order: "A", Reserved: 7}, {Lot: "b", Order: "B", Reserved: 3, Taken: 1000}, {Lot: "c1", Order: "A", Reserved: 500}, {Lot: "d", Order: "A", Taken: 8},
		},
	}
}

func TestFree(t *testing.T) {
	for lot, wanted := range map[string]int{"a": 30, "b": 50, "b1": 500, "c": 20, "c1": 0, "d": 50, "e": 0} {
		free, e := yarn.Free(shelf(), lot)
		same(t, []any{free, e}, []any{wanted, api.OK}, lot)
	}
	for _, lot := range append(badNames(), "", "f", "A", "b2", "y") {
		free, e := yarn.Free(shelf(), lot)
		same(t, []any{free, e}, []any{0, api.ErrUnknown}, lot)
	}
}

func TestStock(t *testing.T) {
	for _, row := range []struct {
		ware, dye   string
		stock, free int
		e           api.Errno
	}{
		{"y", "", 160, 150, api.OK}, {"y", "red", 500, 500, api.OK}, {"z", "", 500, 0, api.OK}, {"z", "red", 0, 0, api.OK}, {"Y", "", 0, 0, api.OK},
		{"", "", 0, 0, api.ErrName}, {"1", "", 0, 0, api.ErrName}, {"y", "1", 0, 0, api.ErrName}, {"y", " ", 0, 0, api.ErrName},
	} {
		stock, free, e := yarn.Stock(shelf(), row.ware, row.dye)
		same(t, []any{stock, free, e}, []any{row.stock, row.free, row.e}, row)
	}
	full := yarn.State{Lots: manyLots(64)}
	for i := range full.Lots {
		full.Lots[i].Stock = api.MaxNumber
	}
	stock, free, e := yarn.Stock(full, "y", "")
	same(t, []any{stock, free, e}, []any{64 * api.MaxNumber, 64 * api.MaxNumber, api.OK})
}

func TestMatch(t *testing.T) {
	for _, row := range []struct {
		ware, dye string
		amount    int
		wanted    []int
		e         api.Errno
	}{
		{"y", "", 70, []int{0, 1}, api.OK}, {"y", "", 80, []int{0, 1}, api.OK}, {"y", "", 81, []int{1, 5}, api.OK}, {"y", "", 90, []int{1, 5}, api.OK},
		{"y", "", 50, []int{1}, api.OK}, {"y", "", 20, []int{0}, api.OK}, {"y", "", 31, []int{1}, api.OK}, {"y", "", 101, []int{0, 1, 5}, api.OK},
		{"y", "", 130, []int{0, 1, 5}, api.OK}, {"y", "", 131, []int{0, 1, 3, 5}, api.OK}, {"y", "", 150, []int{0, 1, 3, 5}, api.OK},
		{"y", "", 0, nil, api.OK}, {"x", "", 0, nil, api.OK}, {"z", "", 0, nil, api.OK}, {"y", "red", 500, []int{2}, api.OK},
		{"y", "", 151, nil, api.ErrStock}, {"y", "", api.MaxNumber, nil, api.ErrStock}, {"z", "", 1, nil, api.ErrStock}, {"x", "red", 1, nil, api.ErrStock},
		{"y", "", -1, nil, api.ErrRange}, {"y", "", api.MaxNumber + 1, nil, api.ErrRange}, {"y", "", math.MinInt, nil, api.ErrRange}, {"y", "", math.MaxInt, nil, api.ErrRange},
		{"", "1", -1, nil, api.ErrName}, {"y", "1", -1, nil, api.ErrName}, {"1", "", 0, nil, api.ErrName}, {"", "", 0, nil, api.ErrName},
	} {
		match, e := yarn.Match(shelf(), row.ware, row.dye, row.amount)
		same(t, e, row.e, row)
		same(t, match, row.wanted, row)
	}
}

func TestMatchOfManyLots(t *testing.T) {
	for _, count := range []int{8, 9, 64} {
		s := yarn.State{Lots: manyLots(count)}
		for _, amount := range []int{0, 1, 100, 101, 801, api.MaxNumber} {
			match, e := yarn.Match(s, "y", "", amount)
			switch {
			case count > api.MaxExact:
				same(t, e, api.ErrLimit, count, amount)
				same(t, match, []int{}, count, amount)
			case amount > 800:
				same(t, e, api.ErrStock, count, amount)
			default:
				same(t, e, api.OK, count, amount)
				same(t, len(match), (amount+99)/100, count, amount)
			}
		}
		_, e := yarn.Match(s, "y", "red", 0)
		same(t, e, api.OK, "none of this ware", count)
	}
	s := yarn.State{Lots: manyLots(64)}
	for i := range 56 { // lots without anything free do not count
		if i%2 == 0 {
			s.Lots[i].Stock = 0
		} else {
			s.Holds = append(s.Holds, yarn.Hold{Lot: s.Lots[i].Name, Order: "A", Reserved: 100})
		}
	}
	match, e := yarn.Match(s, "y", "", 701)
	same(t, e, api.OK)
	same(t, match, []int{56, 57, 58, 59, 60, 61, 62, 63})
}

// wantedMatch goes through all lists of places in the order of matches: the shorter ones first, and the
// lexicographically first one of equally long ones.
func wantedMatch(free []int, amount int) []int {
	level := [][]int{nil}
	for len(level) > 0 {
		var longer [][]int
		for _, list := range level {
			sum, next := 0, 0
			for _, place := range list {
				sum, next = sum+free[place], place+1
			}
			if sum >= amount {
				return list
			}
			for ; next < len(free); next++ {
				longer = append(longer, append(slices.Clone(list), next))
			}
		}
		level = longer
	}
	return nil
}

func randomShelf(source *rand.Rand) (yarn.State, []int) {
	var s yarn.State
	free := make([]int, 1+source.Intn(12))
	left := api.MaxExact
	for i := range free {
		lot := yarn.Lot{Name: "L" + strconv.Itoa(100+i), Yarn: "y", Stock: source.Intn(12)}
		reserved := min(source.Intn(5), lot.Stock)
		if source.Intn(4) == 0 {
			lot.Dye = "red"
		} else if lot.Stock > reserved && left > 0 {
			free[i], left = lot.Stock-reserved, left-1
		} else {
			reserved = lot.Stock
		}
		s.Lots = append(s.Lots, lot)
		if reserved > 0 {
			s.Holds = append(s.Holds, yarn.Hold{Lot: lot.Name, Order: "A", Reserved: reserved})
		}
	}
	return s, free
}

func TestRandomMatches(t *testing.T) {
	source := seeded()
	for range 3000 {
		s, free := randomShelf(source)
		amount, all := source.Intn(40), 0
		for _, part := range free {
			all += part
		}
		match, e := yarn.Match(s, "y", "", amount)
		if all < amount {
			same(t, e, api.ErrStock, s, amount)
			continue
		}
		same(t, e, api.OK, s, amount)
		same(t, match, wantedMatch(free, amount), s, amount)
		_, found, _ := yarn.Stock(s, "y", "")
		same(t, found, all, s)
	}
}
