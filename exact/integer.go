package exact

import "math"

// Integer is an integer of any size; the zero value is 0, and 0 is not negative.
type Integer struct {
	negative bool
	size     natural
}

// IntegerOf returns the integer of an int.
func IntegerOf(value int) Integer {
	size := uint64(value)
	if value < 0 {
		size = -size // also right for the least int, whose opposite is no int
	}
	return Integer{value < 0, naturalOf(size)}
}

func signed(negative bool, size natural) Integer {
	return Integer{negative && len(size) > 0, size}
}

// Int returns the integer as an int, or 0 and false if its size is above that of the greatest int.
func (a Integer) Int() (int, bool) {
	word := a.size.lowWord()
	if len(a.size) > 1 || word > math.MaxInt {
		return 0, false
	}
	if a.negative {
		return -int(word), true
	}
	return int(word), true
}

// IsZero tells whether the integer is 0.
func (a Integer) IsZero() bool {
	return len(a.size) == 0
}

// IsNegative tells whether the integer is below 0.
func (a Integer) IsNegative() bool {
	return a.negative
}

// Negated returns the opposite.
func (a Integer) Negated() Integer {
	return signed(!a.negative, a.size)
}

// Plus returns the sum.
func (a Integer) Plus(b Integer) Integer {
	if a.negative == b.negative {
		return signed(a.negative, a.size.plus(b.size))
	}
	if a.size.compare(b.size) < 0 {
		a, b = b, a
	}
	return signed(a.negative, a.size.minus(b.size))
}

// Minus returns the difference.
func (a Integer) Minus(b Integer) Integer {
	return a.Plus(b.Negated())
}

// Times returns the product.
func (a Integer) Times(b Integer) Integer {
	return signed(a.negative != b.negative, a.size.times(b.size))
}

// Divide returns the greatest integer that is not above the quotient, and what is left; both are 0 if b is 0.
func (a Integer) Divide(b Integer) (Integer, Integer) {
	if b.IsZero() {
		return Integer{}, Integer{}
	}
	size, rest := a.size.divide(b.size)
	if a.negative != b.negative && len(rest) > 0 {
		size, rest = size.plus(naturalOf(1)), b.size.minus(rest)
	}
	return signed(a.negative != b.negative, size), signed(b.negative, rest)
}

// Exact returns the quotient of a division that leaves nothing; it is 0 if b is 0.
func (a Integer) Exact(b Integer) Integer {
	quotient, _ := a.Divide(b)
	return quotient
}

// Root returns the integer part of the square root; it is 0 for an integer below 0.
func (a Integer) Root() Integer {
	if a.negative {
		return Integer{}
	}
	return signed(false, a.size.root())
}

// Compare returns -1, 0 or 1 if a is less than, equal to, or greater than b.
func (a Integer) Compare(b Integer) int {
	switch {
	case a.negative && !b.negative:
		return -1
	case b.negative && !a.negative:
		return 1
	case a.negative:
		return b.size.compare(a.size)
	}
	return a.size.compare(b.size)
}

// CommonDivisor returns the greatest one, from 0 on; that of 0 and another integer is the size of this integer.
func CommonDivisor(a, b Integer) Integer {
	return signed(false, commonDivisor(a.size, b.size))
}

// CommonMultiple returns the least one, from 0 on; it is 0 if one of both is 0.
func CommonMultiple(a, b Integer) Integer {
	multiple := a.Times(b.Exact(CommonDivisor(a, b)))
	return signed(false, multiple.size)
}
