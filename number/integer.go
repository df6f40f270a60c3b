package number

// integer is an integer of any size; 0 is not negative.
type integer struct {
	negative bool
	size     natural
}

func integerOf(value int) integer {
	size := uint64(value)
	if value < 0 {
		size = -size // also right for the least int, whose opposite is no int
	}
	return integer{value < 0, naturalOf(size)}
}

func signed(negative bool, size natural) integer {
	return integer{negative && len(size) > 0, size}
}

func (a integer) isZero() bool {
	return len(a.size) == 0
}

func (a integer) negated() integer {
	return signed(!a.negative, a.size)
}

func (a integer) plus(b integer) integer {
	if a.negative == b.negative {
		return signed(a.negative, a.size.plus(b.size))
	}
	if a.size.compare(b.size) < 0 {
		a, b = b, a
	}
	return signed(a.negative, a.size.minus(b.size))
}

func (a integer) minus(b integer) integer {
	return a.plus(b.negated())
}

func (a integer) times(b integer) integer {
	return signed(a.negative != b.negative, a.size.times(b.size))
}

// exact returns the quotient of a division without a remainder; b is not 0.
func (a integer) exact(b integer) integer {
	quotient, _ := a.size.divide(b.size)
	return signed(a.negative != b.negative, quotient)
}

func (a integer) compare(b integer) int {
	switch {
	case a.negative && !b.negative:
		return -1
	case b.negative && !a.negative:
		return 1
	case a.negative:
		return b.size.compare(a.size)
	}
	return a.size.compare(b.size)
}
