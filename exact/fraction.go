// Package exact computes with integers and fractions of any size, and solves or refutes equations of them. The layers use
// it where numbers on the way may have more digits than those of arguments and results.
package exact

import (
	"strings"

	"becket/api"
)

// Fraction is a rational number of any size, in lowest terms; the zero value is 0.
type Fraction struct {
	top    Integer
	bottom natural // above 0, or nothing for 1
}

// Whole returns the number of an integer.
func Whole(a Integer) Fraction {
	return Fraction{top: a}
}

// Quotient returns the number of two integers; it is 0 if the second one is 0.
func Quotient(top, bottom Integer) Fraction {
	if bottom.IsZero() {
		return Fraction{}
	}
	negative := top.negative != bottom.negative
	common := commonDivisor(top.size, bottom.size)
	if common.isOne() {
		return Fraction{signed(negative, top.size), bottom.size}
	}
	size, _ := top.size.divide(common)
	rest, _ := bottom.size.divide(common)
	return Fraction{signed(negative, size), rest}
}

// Ratio returns the number of two ints; it is 0 if the second one is 0.
func Ratio(top, bottom int) Fraction {
	return Quotient(IntegerOf(top), IntegerOf(bottom))
}

// Top returns the numerator, with the sign of the number.
func (a Fraction) Top() Integer {
	return a.top
}

// Bottom returns the denominator, which is above 0.
func (a Fraction) Bottom() Integer {
	if len(a.bottom) == 0 {
		return IntegerOf(1)
	}
	return Integer{size: a.bottom}
}

// IsZero tells whether the number is 0.
func (a Fraction) IsZero() bool {
	return a.top.IsZero()
}

// Sign returns -1, 0 or 1 if the number is below 0, 0, or above 0.
func (a Fraction) Sign() int {
	return a.top.Compare(Integer{})
}

// Negated returns the opposite.
func (a Fraction) Negated() Fraction {
	return Fraction{a.top.Negated(), a.bottom}
}

// Plus returns the sum.
func (a Fraction) Plus(b Fraction) Fraction {
	switch { // spares the common divisor of a long number that stays as it is
	case b.IsZero():
		return a
	case a.IsZero():
		return b
	}
	left, right := a.top.Times(b.Bottom()), b.top.Times(a.Bottom())
	return Quotient(left.Plus(right), a.Bottom().Times(b.Bottom()))
}

// Minus returns the difference.
func (a Fraction) Minus(b Fraction) Fraction {
	return a.Plus(b.Negated())
}

// Times returns the product.
func (a Fraction) Times(b Fraction) Fraction {
	// What is common is divided out before the products are made: with a short number this is fast, however long the other one is.
	left, right := Quotient(a.top, b.Bottom()), Quotient(b.top, a.Bottom())
	return Fraction{left.top.Times(right.top), left.Bottom().Times(right.Bottom()).size}
}

// Over returns the quotient; it is 0 if b is 0.
func (a Fraction) Over(b Fraction) Fraction {
	return Quotient(a.top.Times(b.Bottom()), b.top.Times(a.Bottom()))
}

// Root returns the square root of a number from 0 on, as both ends, if it is a number; otherwise the thousandths next to it.
func (a Fraction) Root() (low, high Fraction) {
	// In lowest terms the root is a number only if both parts are squares.
	root := Quotient(a.top.Root(), a.Bottom().Root())
	if root.Times(root).Compare(a) == 0 {
		return root, root
	}
	const parts = 1000
	units := a.Times(Ratio(parts*parts, 1)).Floor().Root()
	return Quotient(units, IntegerOf(parts)), Quotient(units.Plus(IntegerOf(1)), IntegerOf(parts))
}

// Compare returns -1, 0 or 1 if a is less than, equal to, or greater than b.
func (a Fraction) Compare(b Fraction) int {
	return a.top.Times(b.Bottom()).Compare(b.top.Times(a.Bottom()))
}

// Floor returns the greatest integer that is not above the number.
func (a Fraction) Floor() Integer {
	floor, _ := a.top.Divide(a.Bottom())
	return floor
}

// Ceiling returns the least integer that is not below the number.
func (a Fraction) Ceiling() Integer {
	return a.Negated().Floor().Negated()
}

// Distance returns how far two numbers are apart.
func (a Fraction) Distance(b Fraction) Fraction {
	difference := a.Minus(b)
	return Fraction{signed(false, difference.top.size), difference.bottom}
}

// Read returns the number of a text, and the error of the text (number.Check).
func Read(text api.Rat) (Fraction, api.Errno) {
	unsigned, negative := strings.CutPrefix(string(text), "-")
	top, bottom, divided := strings.Cut(unsigned, "/")
	if !isDecimal(top) || negative && top == "0" {
		return Fraction{}, api.ErrForm
	}
	if !divided {
		bottom = "1"
	} else if !isDecimal(bottom) || bottom == "0" || bottom == "1" {
		return Fraction{}, api.ErrForm
	}
	if len(top) > api.MaxDigits || len(bottom) > api.MaxDigits {
		return Fraction{}, api.ErrLarge
	}
	number := Fraction{signed(negative, readNatural(top)), readNatural(bottom)}
	if !commonDivisor(number.top.size, number.bottom).isOne() {
		return Fraction{}, api.ErrForm
	}
	return number, api.OK
}

// Value returns the number of a text that has been checked; it is 0 for a text that is none.
func Value(text api.Rat) Fraction {
	number, _ := Read(text)
	return number
}

// isDecimal tells whether a text is a decimal integer without a sign and without zeros at the beginning.
func isDecimal(text string) bool {
	if text == "" || text[0] == '0' && text != "0" {
		return false
	}
	for _, letter := range text {
		if letter < '0' || letter > '9' {
			return false
		}
	}
	return true
}

// Write returns the text of a number, or ErrLarge if it has too many digits.
func Write(a Fraction) (api.Rat, api.Errno) {
	top, topFits := a.top.size.decimal()
	bottom, bottomFits := a.Bottom().size.decimal()
	if !topFits || !bottomFits {
		return "", api.ErrLarge
	}
	if a.top.negative {
		top = "-" + top
	}
	if bottom != "1" {
		top += "/" + bottom
	}
	return api.Rat(top), api.OK
}
