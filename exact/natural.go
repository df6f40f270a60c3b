package exact

import (
	"cmp"
	"math/bits"
	"strconv"
	"strings"

	"becket/api"
)

// natural is an integer from 0 on: words of 64 bits, the lowest first, the highest one not 0.
// It has no limit, because numbers on the way may be larger than those of arguments and results.
// A natural is never changed once it is made, so naturals may share their words.
type natural []uint64

// chunkDigits is the number of decimal digits that always fit into a word.
const chunkDigits = 19

// chunkSize is 10 to the power chunkDigits.
const chunkSize = 10_000_000_000_000_000_000

func naturalOf(value uint64) natural {
	return natural{value}.trimmed()
}

// readNatural reads decimal digits.
func readNatural(digits string) natural {
	var value natural
	for len(digits) > 0 {
		size := (len(digits)-1)%chunkDigits + 1
		chunk, _ := strconv.ParseUint(digits[:size], 10, 64)
		value = value.timesWord(chunkSize).plus(naturalOf(chunk))
		digits = digits[size:]
	}
	return value
}

// decimal returns the decimal digits, and false if there are more than MaxDigits.
func (a natural) decimal() (string, bool) {
	if (len(a)-1)*chunkDigits >= api.MaxDigits { // spares the digits of a number that is far too large
		return "", false
	}
	text := ""
	for len(a) > 1 {
		rest, chunk := a.divideWord(chunkSize)
		digits := strconv.FormatUint(chunk, 10)
		text = strings.Repeat("0", chunkDigits-len(digits)) + digits + text
		a = rest
	}
	text = strconv.FormatUint(a.lowWord(), 10) + text
	return text, len(text) <= api.MaxDigits
}

func (a natural) trimmed() natural {
	for len(a) > 0 && a[len(a)-1] == 0 {
		a = a[:len(a)-1]
	}
	return a
}

func (a natural) isOne() bool {
	return len(a) == 1 && a[0] == 1
}

func (a natural) lowWord() uint64 {
	if len(a) == 0 {
		return 0
	}
	return a[0]
}

// word returns the 64 bits from a place on.
func (a natural) word(place uint) uint64 {
	at, shift := place/64, place%64
	var word uint64
	if at < uint(len(a)) {
		word = a[at] >> shift
	}
	if at+1 < uint(len(a)) {
		word |= a[at+1] << (64 - shift)
	}
	return word
}

// bitLength returns the number of bits; a is above 0.
func (a natural) bitLength() int {
	return 64*len(a) - bits.LeadingZeros64(a[len(a)-1])
}

func (a natural) compare(b natural) int {
	if len(a) != len(b) {
		return cmp.Compare(len(a), len(b))
	}
	for i := len(a) - 1; i >= 0; i-- {
		if a[i] != b[i] {
			return cmp.Compare(a[i], b[i])
		}
	}
	return 0
}

func (a natural) plus(b natural) natural {
	if len(a) < len(b) {
		a, b = b, a
	}
	sum := make(natural, len(a)+1)
	copy(sum, a)
	sum[len(a)] = addTo(sum[:len(a)], b)
	return sum.trimmed()
}

// minus returns a - b; b is at most a.
func (a natural) minus(b natural) natural {
	difference := make(natural, len(a))
	var borrow uint64
	for i, word := range a {
		var other uint64
		if i < len(b) {
			other = b[i]
		}
		difference[i], borrow = bits.Sub64(word, other, borrow)
	}
	return difference.trimmed()
}

// gap returns how far two numbers are apart.
func (a natural) gap(b natural) natural {
	if a.compare(b) < 0 {
		return b.minus(a)
	}
	return a.minus(b)
}

func (a natural) times(b natural) natural {
	product := make(natural, len(a)+len(b))
	for i, word := range b {
		product[i+len(a)] = addMultiple(product[i:i+len(a)], a, word)
	}
	return product.trimmed()
}

func (a natural) timesWord(factor uint64) natural {
	return a.times(natural{factor})
}

// divide returns the integer quotient and the remainder; b is above 0.
func (a natural) divide(b natural) (natural, natural) {
	if a.compare(b) < 0 {
		return nil, a
	}
	if len(b) == 1 {
		quotient, remainder := a.divideWord(b[0])
		return quotient, naturalOf(remainder)
	}
	// With the highest bit of the divisor set, a digit that is guessed from the highest words is at most 2 too great.
	shift := uint(bits.LeadingZeros64(b[len(b)-1]))
	divisor := b.shiftedUp(shift)[:len(b)]
	rest := a.shiftedUp(shift)
	quotient := make(natural, len(rest)-len(divisor))
	for i := len(quotient) - 1; i >= 0; i-- {
		quotient[i] = divideStep(rest[i:i+len(divisor)+1], divisor)
	}
	return quotient.trimmed(), rest[:len(divisor)].shiftedDown(shift)
}

func (a natural) divideWord(divisor uint64) (natural, uint64) {
	quotient := make(natural, len(a))
	var remainder uint64
	for i := len(a) - 1; i >= 0; i-- {
		quotient[i], remainder = bits.Div64(remainder, a[i], divisor)
	}
	return quotient.trimmed(), remainder
}

// shiftedUp returns a times 2 to the power shift (below 64), with one word more than a, even if it is 0.
func (a natural) shiftedUp(shift uint) natural {
	shifted := make(natural, len(a)+1)
	for i, word := range a {
		shifted[i] |= word << shift
		shifted[i+1] = word >> (64 - shift)
	}
	return shifted
}

// shiftedDown returns the integer part of a divided by 2 to the power shift (below 64).
func (a natural) shiftedDown(shift uint) natural {
	shifted := make(natural, len(a))
	for i, word := range a {
		shifted[i] = word >> shift
		if i > 0 {
			shifted[i-1] |= word << (64 - shift)
		}
	}
	return shifted.trimmed()
}

// root returns the integer part of the square root.
func (a natural) root() natural {
	if len(a) == 0 {
		return nil
	}
	// Newton's steps from above fall until they reach the root.
	guess := powerOfTwo(a.bitLength()/2 + 1)
	for {
		quotient, _ := a.divide(guess)
		next := guess.plus(quotient).shiftedDown(1)
		if next.compare(guess) >= 0 {
			return guess
		}
		guess = next
	}
}

func powerOfTwo(exponent int) natural {
	power := make(natural, exponent/64+1)
	power[exponent/64] = 1 << (exponent % 64)
	return power
}

// commonDivisor returns the greatest one; that of 0 and another number is this number.
func commonDivisor(a, b natural) natural {
	if a.compare(b) < 0 {
		a, b = b, a
	}
	for len(b) > 1 {
		if steps := stepsOfHighBits(a, b); steps.b0 != 0 {
			a, b = steps.apply(a, b)
		} else {
			_, remainder := a.divide(b)
			a, b = b, remainder
		}
	}
	if len(b) == 0 {
		return a
	}
	_, low := a.divideWord(b[0])
	high := b[0]
	for low != 0 {
		high, low = low, high%low
	}
	return naturalOf(high)
}

// euclid has what some steps of Euclid's algorithm make of two numbers a and b: a0 a and b0 b apart, and a1 a and b1 b.
type euclid struct {
	a0, b0, a1, b1 uint64
}

// stepsOfHighBits returns the steps that the highest 64 bits of the greater number, and what stands there of the other
// one, decide for all numbers with these bits (Lehmer; the condition is that of Jebelean). They spare most divisions of
// long numbers. The second number has at least two words; b0 is 0 if not even one step is decided.
func stepsOfHighBits(a, b natural) euclid {
	shift := uint(a.bitLength() - 64)
	x, y := a.word(shift), b.word(shift)
	steps := euclid{0, 0, 1, 0}
	var a2, b2 uint64 = 0, 1
	for y >= b2 && x-y >= steps.b1+b2 {
		digit, rest := x/y, x%y
		x, y = y, rest
		steps, a2, b2 = euclid{steps.a1, steps.b1, a2, b2}, steps.a1+digit*a2, steps.b1+digit*b2
	}
	return steps
}

func (e euclid) apply(a, b natural) (natural, natural) {
	left := a.timesWord(e.a0).gap(b.timesWord(e.b0))
	right := a.timesWord(e.a1).gap(b.timesWord(e.b1))
	return left, right
}

// addTo adds b to words that are at least as many as its own, and returns the carry.
func addTo(words, b []uint64) uint64 {
	var carry uint64
	for i := range words {
		if i < len(b) {
			words[i], carry = bits.Add64(words[i], b[i], carry)
		} else if carry == 0 {
			break
		} else {
			words[i], carry = bits.Add64(words[i], 0, carry)
		}
	}
	return carry
}

// addMultiple adds a times the factor to as many words, and returns the word that is carried.
func addMultiple(words, a []uint64, factor uint64) uint64 {
	var carried uint64
	for i, word := range a {
		high, low := bits.Mul64(word, factor)
		var carry uint64
		low, carry = bits.Add64(low, carried, 0)
		high += carry
		words[i], carry = bits.Add64(words[i], low, 0)
		carried = high + carry
	}
	return carried
}

// subtractMultiple takes a times the factor from as many words, and returns the word that is borrowed.
func subtractMultiple(words, a []uint64, factor uint64) uint64 {
	var borrowed uint64
	for i, word := range a {
		high, low := bits.Mul64(word, factor)
		var carry uint64
		low, carry = bits.Add64(low, borrowed, 0)
		high += carry
		words[i], carry = bits.Sub64(words[i], low, 0)
		borrowed = high + carry
	}
	return borrowed
}

// divideStep replaces the rest, one word longer than the divisor, by its remainder, and returns the digit of the quotient.
func divideStep(rest, divisor []uint64) uint64 {
	top := len(divisor)
	digit := guessDigit(rest[top], rest[top-1], rest[top-2], divisor[top-1], divisor[top-2])
	borrowed := subtractMultiple(rest[:top], divisor, digit)
	tooMuch := borrowed > rest[top]
	rest[top] -= borrowed
	for tooMuch {
		digit--
		carry := addTo(rest[:top], divisor)
		rest[top] += carry
		tooMuch = rest[top] != 0
	}
	return digit
}

// guessDigit returns the digit of a quotient, or one that is a little greater, from the highest words of the rest and of the divisor.
func guessDigit(rest2, rest1, rest0, divisor1, divisor0 uint64) uint64 {
	if rest2 >= divisor1 {
		return 1<<64 - 1
	}
	digit, remainder := bits.Div64(rest2, rest1, divisor1)
	for {
		high, low := bits.Mul64(digit, divisor0)
		if high < remainder || high == remainder && low <= rest0 {
			return digit
		}
		digit--
		var carry uint64
		remainder, carry = bits.Add64(remainder, divisor1, 0)
		if carry != 0 {
			return digit
		}
	}
}
