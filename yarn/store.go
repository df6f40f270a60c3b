package yarn

import (
	"cmp"
	"slices"
	"strings"

	"becket/api"
	"becket/check"
	"becket/lists"
)

// The limits of the chapter.
const (
	MaxOrders = 256
	MaxLots   = 64
)

// Entry is an entry of the store.
type Entry struct {
	Kind   string
	Day    int
	Lot    string
	Amount int
	Yarn   string
	Dye    string
	Order  string
}

// Lot is a dyed lot with its stock.
type Lot struct {
	Name  string
	Yarn  string
	Dye   string
	Stock int
}

// Hold is what an order has reserved and taken of a lot.
type Hold struct {
	Lot      string
	Order    string
	Reserved int
	Taken    int
}

// State is the store after some entries.
type State struct {
	Day   int
	Lots  []Lot
	Holds []Hold
}

// Refusal is an entry that was set aside, and the rule.
type Refusal struct {
	Number int
	Rule   int
}

// The rules by which entries are refused.
const (
	legal = iota
	ruleOfDays
	ruleOfLots
	ruleOfAmounts
	ruleOfSizes
	ruleOfLimits
)

// claim is an order's claim to a lot.
type claim struct {
	lot, order string
}

// ware is what several lots may have in common.
type ware struct {
	yarn, dye string
}

// account has the amounts of an entry's lot that the entry may change, and what is free of the lot before it.
type account struct {
	stock, free, reserved, taken int
}

// entryKind says what form entries of a kind have, how much of a lot they may ask for, and what they change.
type entryKind struct {
	check  func(e Entry) api.Errno
	most   func(a account) int
	change func(a account, amount int) account
}

func kinds() map[string]entryKind {
	return map[string]entryKind{
		"receive": {
			checkReceived, func(a account) int { return api.MaxNumber },
			func(a account, amount int) account { a.stock += amount; return a },
		},
		"reserve": {
			checkOrdered, func(a account) int { return a.free },
			func(a account, amount int) account { a.reserved += amount; return a },
		},
		"release": {
			checkOrdered, func(a account) int { return a.reserved },
			func(a account, amount int) account { a.reserved -= amount; return a },
		},
		"take": {checkOrdered, func(a account) int { return a.free + a.reserved }, taken},
		"return": {
			checkOrdered, func(a account) int { return a.taken },
			func(a account, amount int) account { a.stock += amount; a.taken -= amount; return a },
		},
	}
}

// taken returns an account after an amount was taken, of what was reserved before what was free.
func taken(a account, amount int) account {
	a.stock -= amount
	a.reserved = max(a.reserved-amount, 0)
	a.taken += amount
	return a
}

// Legal returns the rule that refuses an entry, 0 if none does.
func Legal(s State, e Entry) (int, api.Errno) {
	if code := check.First(CheckState(s), CheckEntry(e)); code != api.OK {
		return 0, code
	}
	_, rule := after(s, e)
	return rule, api.OK
}

// Next returns the state after a legal entry.
func Next(s State, e Entry) (State, api.Errno) {
	if code := check.First(CheckState(s), CheckEntry(e)); code != api.OK {
		return State{}, code
	}
	next, rule := after(s, e)
	if rule != legal {
		return State{}, api.ErrRule
	}
	return next, api.OK
}

// Replay returns the state after a log, and what was set aside.
func Replay(l []Entry) (State, []Refusal, api.Errno) {
	if e := CheckLog(l); e != api.OK {
		return State{}, nil, e
	}
	state, refusals := replay(l)
	return state, refusals, api.OK
}

// Until returns the state after the entries up to a day.
func Until(l []Entry, day int) (State, api.Errno) {
	if e := check.First(CheckLog(l), check.Range(day, 0, api.MaxDay)); e != api.OK {
		return State{}, e
	}
	state, _ := replay(lists.Filter(l, func(e Entry) bool { return e.Day <= day }))
	return state, api.OK
}

// replay returns the state after a log without errors, and what was set aside.
func replay(l []Entry) (State, []Refusal) {
	var state State
	var refusals []Refusal
	for i, e := range l {
		next, rule := after(state, e)
		if rule != legal {
			refusals = append(refusals, Refusal{i + 1, rule})
			continue
		}
		state = next
	}
	return state, refusals
}

// after returns the state after an entry, or the first rule that the entry breaks.
func after(s State, e Entry) (State, int) {
	if e.Day < s.Day {
		return State{}, ruleOfDays
	}
	lot, permitted := lotFor(s, e)
	if !permitted {
		return State{}, ruleOfLots
	}
	kind := kinds()[e.Kind]
	hold := holdOf(s, claim{e.Lot, e.Order})
	amounts := account{lot.Stock, freeOf(s, lot), hold.Reserved, hold.Taken}
	if e.Amount > kind.most(amounts) {
		return State{}, ruleOfAmounts
	}
	amounts = kind.change(amounts, e.Amount)
	if amounts.stock > api.MaxNumber || amounts.taken > api.MaxNumber {
		return State{}, ruleOfSizes
	}
	lot.Stock, hold.Reserved, hold.Taken = amounts.stock, amounts.reserved, amounts.taken
	next := State{e.Day, lotsWith(s.Lots, lot), holdsWith(s.Holds, hold)}
	if len(next.Lots) > MaxLots || len(next.Holds) > MaxOrders {
		return State{}, ruleOfLimits
	}
	return next, legal
}

// lotFor returns the lot of an entry, a new one if there is none yet, and whether rule 2 permits it.
func lotFor(s State, e Entry) (Lot, bool) {
	lot, found := lotNamed(s, e.Lot)
	switch {
	case e.Kind != "receive":
		return lot, found
	case !found:
		return Lot{Name: e.Lot, Yarn: e.Yarn, Dye: e.Dye}, true
	}
	return lot, wareOf(lot) == ware{e.Yarn, e.Dye}
}

// lotsWith returns the lots with one that is new, or in the place of the one with its name.
func lotsWith(lots []Lot, lot Lot) []Lot {
	return lists.Put(lots, lot, func(a, b Lot) int { return strings.Compare(a.Name, b.Name) })
}

// holdsWith returns the holds with one that is new, or in the place of the one with its claim; without it if it holds nothing.
func holdsWith(holds []Hold, hold Hold) []Hold {
	changed := lists.Put(holds, hold, func(a, b Hold) int { return compareClaims(claimOf(a), claimOf(b)) })
	return slices.DeleteFunc(changed, func(h Hold) bool { return h.Reserved == 0 && h.Taken == 0 })
}

func lotNamed(s State, name string) (Lot, bool) {
	return lists.Find(s.Lots, name, func(l Lot) string { return l.Name })
}

// holdOf returns the hold with a claim, which holds nothing if there is none yet.
func holdOf(s State, c claim) Hold {
	hold, found := lists.Find(s.Holds, c, claimOf)
	if !found {
		hold = Hold{Lot: c.lot, Order: c.order}
	}
	return hold
}

func claimOf(h Hold) claim {
	return claim{h.Lot, h.Order}
}

func compareClaims(a, b claim) int {
	return cmp.Or(strings.Compare(a.lot, b.lot), strings.Compare(a.order, b.order))
}

func wareOf(l Lot) ware {
	return ware{l.Yarn, l.Dye}
}

// freeOf returns the stock of a lot less all that is reserved of it.
func freeOf(s State, lot Lot) int {
	free := lot.Stock
	for _, hold := range s.Holds {
		if hold.Lot == lot.Name {
			free -= hold.Reserved
		}
	}
	return free
}
