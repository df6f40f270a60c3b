package rope

import (
	"slices"

	"becket/api"
	"becket/check"
	"becket/number"
)

// CheckRope returns the first error of a rope, or OK.
func CheckRope(r Rope) api.Errno {
	e := check.First(
		check.Name(r.Name), check.That(len(r.Parts) > 0, api.ErrEmpty), check.That(len(r.Parts) <= api.MaxParts, api.ErrMany),
	)
	if e != api.OK {
		return e
	}
	for part := range r.Parts {
		if e := checkPart(r.Parts, part); e != api.OK {
			return e
		}
	}
	return api.OK
}

// checkPart returns the first error of a part; those before it have none.
func checkPart(parts []Part, part int) api.Errno {
	p := parts[part]
	e := check.First(
		check.Name(p.Name), checkNew(parts[:part], p.Name), checkParent(p, part), checkHand(p, part), checkLay(p),
	)
	if e != api.OK { // the parent may be none
		return e
	}
	return check.First(
		checkFit(parts, part), check.That(levelOf(parts, part) <= api.MaxDepth, api.ErrMany),
		number.Check(p.Twist), number.Check(p.Tex), number.Check(p.Stiff), checkYarns(p, isParent(parts, part)),
	)
}

// checkNew returns the error of a name that a part before has.
func checkNew(before []Part, name string) api.Errno {
	known := slices.ContainsFunc(before, func(p Part) bool { return p.Name == name })
	return check.That(!known, api.ErrTwice)
}

func checkParent(p Part, part int) api.Errno {
	if part == 0 {
		return check.That(p.Parent == -1, api.ErrUnknown)
	}
	return check.That(p.Parent >= 0 && p.Parent < part, api.ErrUnknown)
}

func checkHand(p Part, part int) api.Errno {
	if part == 0 {
		return check.That(p.Hand == noHand, api.ErrHand)
	}
	return check.That(p.Hand >= handS && p.Hand <= handZ, api.ErrHand)
}

// checkLay returns the first error of how a part is laid, and of how thick it is.
func checkLay(p Part) api.Errno {
	thick := check.Range(p.Thick, 1, MaxRadius)
	if p.Hand == noHand {
		return check.First(check.That(p == asCore(p), api.ErrRange), thick)
	}
	return check.First(check.Range(p.Lay, 1, MaxLay), check.Range(p.Radius, 1, MaxRadius), check.Range(p.Count, 1, MaxCount), thick)
}

// asCore returns a part that is laid as a core.
func asCore(p Part) Part {
	p.Hand, p.Lay, p.Radius, p.Count = noHand, 0, 0, 1
	return p
}

// asParent returns a part that has no yarns of its own.
func asParent(p Part) Part {
	p.Yarns, p.Tex, p.Stiff = 0, "0", "0"
	return p
}

// checkFit returns the error of a part that does not fit into its parent.
func checkFit(parts []Part, part int) api.Errno {
	if part == 0 {
		return api.OK
	}
	p := parts[part]
	return check.That(p.Radius+p.Thick <= parts[p.Parent].Thick, api.ErrShape)
}

// checkYarns returns the first error of the yarns of a part.
func checkYarns(p Part, parent bool) api.Errno {
	if parent {
		return check.That(p == asParent(p), api.ErrRange)
	}
	return check.First(check.Range(p.Yarns, 1, MaxYarns), check.Positive(p.Tex), check.FromZero(p.Stiff))
}

// checkNumber returns the error of the number of a part.
func checkNumber(r Rope, part int) api.Errno {
	return check.That(part >= 0 && part < len(r.Parts), api.ErrUnknown)
}

func checkMetres(metres int) api.Errno {
	return check.Range(metres, 1, MaxLength)
}

func checkDigits(digits int) api.Errno {
	_, e := number.Pi(digits)
	return e
}

// checkList returns the first error of a list of parts.
func checkList(r Rope, list []int) api.Errno {
	return checkParts(r, list, func(part int) int { return part }, func(int) api.Errno { return api.OK })
}

// checkFree returns the first error of free parts.
func checkFree(r Rope, free []Free) api.Errno {
	return checkParts(r, free, func(f Free) int { return f.Part }, checkBounds)
}

func checkBounds(f Free) api.Errno {
	order, e := number.Order(f.Low, f.High)
	return check.First(e, check.That(order <= 0, api.ErrOrder))
}

// checkParts returns the first error of elements that name parts and may have errors of their own.
func checkParts[T any](r Rope, list []T, partOf func(T) int, own func(T) api.Errno) api.Errno {
	if len(list) > api.MaxParts {
		return api.ErrMany
	}
	named := map[int]bool{}
	return check.Each(list, func(element T) api.Errno {
		part := partOf(element)
		twice := named[part]
		named[part] = true
		return check.First(checkNumber(r, part), check.That(!twice, api.ErrTwice), own(element))
	})
}

// checkNumbers returns the first error of numbers of which there have to be so many.
func checkNumbers(numbers []api.Rat, count int) api.Errno {
	if len(numbers) != count {
		return api.ErrShape
	}
	return check.Each(numbers, number.Check)
}
