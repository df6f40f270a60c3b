package number

import (
	"strings"

	"becket/api"
)

// fraction is a rational number of any size, in lowest terms; bottom is above 0.
type fraction struct {
	top    integer
	bottom natural
}

func whole(top integer) fraction {
	return fraction{top, naturalOf(1)}
}

// quotient returns the fraction of two integers, the second one not 0.
func quotient(top, bottom integer) fraction {
	negative := top.negative != bottom.negative
	common := commonDivisor(top.size, bottom.size)
	if common.isOne() {
		return fraction{signed(negative, top.size), bottom.size}
	}
	size, _ := top.size.divide(common)
	rest, _ := bottom.size.divide(common)
	return fraction{signed(negative, size), rest}
}

func (a fraction) isZero() bool {
	return a.top.isZero()
}

func (a fraction) plus(b fraction) fraction {
	left := a.top.times(signed(false, b.bottom))
	right := b.top.times(signed(false, a.bottom))
	return quotient(left.plus(right), signed(false, a.bottom.times(b.bottom)))
}

func (a fraction) minus(b fraction) fraction {
	return a.plus(fraction{b.top.negated(), b.bottom})
}

func (a fraction) times(b fraction) fraction {
	return quotient(a.top.times(b.top), signed(false, a.bottom.times(b.bottom)))
}

// over returns the quotient; b is not 0.
func (a fraction) over(b fraction) fraction {
	return quotient(a.top.times(signed(false, b.bottom)), b.top.times(signed(false, a.bottom)))
}

func (a fraction) compare(b fraction) int {
	left := a.top.times(signed(false, b.bottom))
	right := b.top.times(signed(false, a.bottom))
	return left.compare(right)
}

// floor returns the greatest integer that is not above the number.
func (a fraction) floor() integer {
	size, rest := a.top.size.divide(a.bottom)
	if a.top.negative && len(rest) > 0 {
		size = size.plus(naturalOf(1))
	}
	return signed(a.top.negative, size)
}

// distance returns how far two numbers are apart.
func (a fraction) distance(b fraction) fraction {
	difference := a.minus(b)
	return fraction{signed(false, difference.top.size), difference.bottom}
}

// read returns the number of a text.
func read(text api.Rat) (fraction, api.Errno) {
	unsigned, negative := strings.CutPrefix(string(text), "-")
	top, bottom, divided := strings.Cut(unsigned, "/")
	if !isDecimal(top) || negative && top == "0" {
		return fraction{}, api.ErrForm
	}
	if !divided {
		bottom = "1"
	} else if !isDecimal(bottom) || bottom == "0" || bottom == "1" {
		return fraction{}, api.ErrForm
	}
	if len(top) > api.MaxDigits || len(bottom) > api.MaxDigits {
		return fraction{}, api.ErrLarge
	}
	number := fraction{signed(negative, readNatural(top)), readNatural(bottom)}
	if !commonDivisor(number.top.size, number.bottom).isOne() {
		return fraction{}, api.ErrForm
	}
	return number, api.OK
}

// isDecimal tells whether a text is a decimal integer without a sign and without zeros at the beginning.
func isDecimal(text string) bool {
	if text == "" || text[0] == '0' && text != "0" {
		return false
	}
	for _, letter := range text {
		if !isDigit(letter) {
			return false
		}
	}
	return true
}

// write returns the text of a number.
func write(a fraction) (api.Rat, api.Errno) {
	top, topFits := a.top.size.decimal()
	bottom, bottomFits := a.bottom.decimal()
	if !topFits || !bottomFits {
		return "", api.ErrLarge
	}
	if a.top.negative {
		top = "-" + top
	}
	if bottom != "1" {
		top += "/" + bottom
	}
	return api.Rat(top), api.OK
}

// readList returns the numbers of texts, and the error of the first one with an error.
func readList(texts []api.Rat) ([]fraction, api.Errno) {
	numbers := make([]fraction, len(texts))
	for i, text := range texts {
		number, e := read(text)
		if e != api.OK {
			return nil, e
		}
		numbers[i] = number
	}
	return numbers, api.OK
}
