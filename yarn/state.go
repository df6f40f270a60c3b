package yarn

import (
	"becket/api"
	"becket/check"
)

// CheckEntry returns the first error of an entry by itself, or OK.
func CheckEntry(e Entry) api.Errno {
	kind, known := kinds()[e.Kind]
	if !known {
		return api.ErrKind
	}
	return check.First(
		check.Range(e.Day, 0, api.MaxDay), check.Range(e.Amount, 1, api.MaxNumber), check.Name(e.Lot), kind.check(e),
	)
}

// checkReceived returns the first error of what only entries that receive a lot have, or must not have.
func checkReceived(e Entry) api.Errno {
	return check.First(check.Name(e.Yarn), checkDye(e.Dye), checkEmpty(e.Order))
}

// checkOrdered returns the first error of what only entries for an order have, or must not have.
func checkOrdered(e Entry) api.Errno {
	return check.First(check.Name(e.Order), checkEmpty(e.Yarn), checkEmpty(e.Dye))
}

func checkEmpty(text string) api.Errno {
	if text != "" {
		return api.ErrForm
	}
	return api.OK
}

// CheckLog returns the first error of a log, or OK.
func CheckLog(l []Entry) api.Errno {
	if len(l) > api.MaxEvents {
		return api.ErrMany
	}
	return check.Each(l, CheckEntry)
}

// CheckState returns the first error of a state, or OK.
func CheckState(s State) api.Errno {
	if e := check.First(check.Range(s.Day, 0, api.MaxDay), checkLots(s.Lots)); e != api.OK {
		return e
	}
	if e := checkHolds(s); e != api.OK {
		return e
	}
	return checkFree(s)
}

// checkLots returns the first error of the lots of a state.
func checkLots(lots []Lot) api.Errno {
	if len(lots) > MaxLots {
		return api.ErrMany
	}
	for i, lot := range lots {
		if e := check.First(check.Name(lot.Name), check.Name(lot.Yarn), checkDye(lot.Dye)); e != api.OK {
			return e
		}
		if i > 0 && lot.Name <= lots[i-1].Name {
			return api.ErrOrder
		}
		if e := check.Range(lot.Stock, 0, api.MaxNumber); e != api.OK {
			return e
		}
	}
	return api.OK
}

// checkHolds returns the first error of the holds of a state whose lots have none.
func checkHolds(s State) api.Errno {
	if len(s.Holds) > MaxOrders {
		return api.ErrMany
	}
	for i, hold := range s.Holds {
		if _, known := lotNamed(s, hold.Lot); !known {
			return api.ErrUnknown
		}
		if e := check.Name(hold.Order); e != api.OK {
			return e
		}
		if i > 0 && compareClaims(claimOf(hold), claimOf(s.Holds[i-1])) <= 0 {
			return api.ErrOrder
		}
		if e := check.First(check.Range(hold.Reserved, 0, api.MaxNumber), check.Range(hold.Taken, 0, api.MaxNumber)); e != api.OK {
			return e
		}
		if hold.Reserved == 0 && hold.Taken == 0 {
			return api.ErrZero
		}
	}
	return api.OK
}

// checkFree returns the error of a lot of which more is reserved than there is.
func checkFree(s State) api.Errno {
	for _, lot := range s.Lots {
		if freeOf(s, lot) < 0 {
			return api.ErrStock
		}
	}
	return api.OK
}
