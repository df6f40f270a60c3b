package plait

import (
	"slices"
	"strings"

	"becket/api"
	"becket/check"
	"becket/lists"
	"becket/number"
)

// Sennit returns the passes of some steps of the flat sennit.
func Sennit(n, steps int) ([]Pass, api.Errno) {
	if e := check.First(checkStrands(n), check.Range(steps, 0, api.MaxSteps)); e != api.OK {
		return nil, e
	}
	half := n / 2
	way := strings.Repeat(string([]byte{over, under}), half)[:half]
	l := make([]Pass, steps)
	for i := range steps {
		if i%2 == 0 { // the steps are counted from 1 on, so that this one is odd
			l[i] = Pass{From: 1, To: half + 1, Way: way}
		} else {
			l[i] = Pass{From: n, To: n - half, Way: way}
		}
	}
	return l, api.OK
}

// Repeat returns after how many rounds of passes the strands stand as at first.
func Repeat(n int, l []Pass) (api.Rat, api.Errno) {
	if e := CheckPasses(n, l); e != api.OK {
		return "", e
	}
	strands := lists.Numbers(n)
	for _, p := range l {
		strand := strands[p.From-1]
		strands = slices.Delete(strands, p.From-1, p.From)
		strands = slices.Insert(strands, p.To-1, strand)
	}
	// They tell which strand is at each place, not where each one is: this is the inverse, with the same period.
	return number.Period(strands)
}
