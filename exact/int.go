// Package exact computes with whole and rational numbers of any length, and with products of powers that have such exponents. The layers need it where numbers on the way to a result may be longer than the result.
package exact

import (
	"strconv"
	"strings"

	"metewand/api"
	"metewand/stop"
)

// A sign says on which side of 0 a number is.
type sign int

const (
	below sign = iota - 1
	none
	above
)

// turned is the sign of the negative.
func (s sign) turned() sign { return -s }

// with is the sign of a product.
func (s sign) with(other sign) sign { return s * other }

// mark is what stands in front of the digits.
func (s sign) mark() string {
	if s == below {
		return "-"
	}
	return ""
}

// An Int is a whole number. Its limbs are never changed once it is made, so numbers may share them.
type Int struct {
	sign
	limbs []limb
}

// signed makes a number of limbs, which may have zeros at the high end.
func signed(s sign, limbs []limb) Int {
	limbs = trim(limbs)
	if len(limbs) == 0 {
		return Int{}
	}
	return Int{s, limbs}
}

// small makes a number of a limb.
func small(n limb) Int { return signed(above, []limb{n}) }

// Of makes a number of a machine's number.
func Of(n int) Int { return Read(strconv.Itoa(n)) }

// Read returns the number of a text, which has to be of the form of a whole number (ErrForm).
func Read(text string) Int {
	s, digits := split(text, decimal)
	limbs := make([]limb, (len(digits)+places-1)/places)
	for i := range limbs {
		end := len(digits) - i*places
		for _, r := range digits[max(0, end-places):end] {
			limbs[i] = limbs[i]*decimal + limb(digitOf(r))
		}
	}
	return signed(s, limbs)
}

// Width returns how many digits in the base the text of a whole number has, which has to be of that form (ErrForm).
func Width(text string, base int) int {
	_, digits := split(text, base)
	return len(digits)
}

// split returns the sign and the digits of a text, which has to be of the form of a number in the base.
func split(text string, base int) (sign, string) {
	s := above
	digits, marked := strings.CutPrefix(text, below.mark())
	if marked {
		s = below
	}
	stop.Demand(digits != "", api.ErrForm)
	for _, r := range digits {
		stop.Demand(digitOf(r) < base, api.ErrForm)
	}
	stop.Demand(digits[0] != '0' || text == "0", api.ErrForm)
	return s, digits
}

// Length is how many decimal digits the number has.
func (a Int) Length() int {
	if len(a.limbs) == 0 {
		return 1
	}
	top := len(a.limbs) - 1
	return top*places + len(strconv.Itoa(int(a.limbs[top])))
}

// Text returns the decimal digits.
func (a Int) Text() string {
	if a.sign == none {
		return "0"
	}
	front := a.mark()
	out := make([]byte, len(front)+a.Length())
	copy(out, front)
	end := len(out)
	for _, part := range a.limbs {
		for range min(places, end-len(front)) {
			end--
			out[end] = byte('0' + part%decimal)
			part /= decimal
		}
	}
	return string(out)
}

// Sign is -1, 0 or 1, as the number is less than 0, 0, or greater.
func (a Int) Sign() int { return int(a.sign) }

// Odd returns whether the number is odd. (The radix is even.)
func (a Int) Odd() bool { return len(a.limbs) > 0 && a.limbs[0]%2 == 1 }

// Negative returns the number with the other sign.
func (a Int) Negative() Int { return Int{a.turned(), a.limbs} }

// Size returns the number without its sign.
func (a Int) Size() Int { return Int{a.with(a.sign), a.limbs} }

// Plus returns a + b.
func (a Int) Plus(b Int) Int {
	if compareLimbs(a.limbs, b.limbs) < 0 {
		a, b = b, a
	}
	if a.with(b.sign) == below {
		return signed(a.sign, takeLimbs(a.limbs, b.limbs))
	}
	return signed(a.sign, addLimbs(a.limbs, b.limbs))
}

// Minus returns a - b.
func (a Int) Minus(b Int) Int { return a.Plus(b.Negative()) }

// Compare returns -1, 0 or 1, as a is less than b, equal, or greater.
func (a Int) Compare(b Int) int {
	if a.sign != b.sign {
		return direction(a.sign < b.sign)
	}
	return compareLimbs(a.limbs, b.limbs) * int(a.sign)
}
