package whole

import (
	"strconv"
	"strings"

	"metewand/api"
)

// A sign says on which side of 0 a number is.
type sign int

const (
	below sign = iota - 1
	none
	above
)

// turned is the sign of the negative.
func (s sign) turned() sign { return -s }

// with is the sign of a product.
func (s sign) with(other sign) sign { return s * other }

// mark is what stands in front of the digits.
func (s sign) mark() string {
	if s == below {
		return "-"
	}
	return ""
}

// A number is a whole number at work. Its limbs are never changed once it is made, so numbers may share them.
type number struct {
	sign
	limbs []limb
}

// signed makes a number of limbs, which may have zeros at the high end.
func signed(s sign, limbs []limb) number {
	limbs = trim(limbs)
	if len(limbs) == 0 {
		return number{}
	}
	return number{s, limbs}
}

// small makes a number of a limb.
func small(n limb) number { return signed(above, []limb{n}) }

// width is how many limbs the longest valid numbers have.
const width = (api.Digits + places - 1) / places

// A block is the limbs of a valid number, filled up with zeros to the same length for all.
type block [width]limb

func (n number) block() block {
	var b block
	copy(b[:], n.limbs)
	return b
}

// length is how many decimal digits the number has.
func (n number) length() int {
	if len(n.limbs) == 0 {
		return 1
	}
	top := len(n.limbs) - 1
	return top*places + len(strconv.Itoa(int(n.limbs[top])))
}

// read returns the number of a text, which has to be valid.
func read(text string) number {
	s, digits := split(text, decimal)
	demand(len(digits) <= api.Digits, api.ErrLarge)
	limbs := make([]limb, (len(digits)+places-1)/places)
	for i := range limbs {
		end := len(digits) - i*places
		for _, r := range digits[max(0, end-places):end] {
			limbs[i] = limbs[i]*decimal + limb(digitOf(r))
		}
	}
	return signed(s, limbs)
}

// split returns the sign and the digits of a text, which has to be of the form of a number in the base.
func split(text string, base int) (sign, string) {
	s := above
	digits, marked := strings.CutPrefix(text, below.mark())
	if marked {
		s = below
	}
	demand(digits != "", api.ErrForm)
	for _, r := range digits {
		demand(digitOf(r) < base, api.ErrForm)
	}
	demand(digits[0] != '0' || text == "0", api.ErrForm)
	return s, digits
}

// text returns the decimal digits, unless there are too many.
func (n number) text() string {
	if n.sign == none {
		return "0"
	}
	length := n.length()
	demand(length <= api.Digits, api.ErrLarge)
	front := n.mark()
	out := make([]byte, len(front)+length)
	copy(out, front)
	end := len(out)
	for _, part := range n.limbs {
		for range min(places, end-len(front)) {
			end--
			out[end] = byte('0' + part%decimal)
			part /= decimal
		}
	}
	return string(out)
}

// order returns -1, 0 or 1 as the first one of two valid numbers is less, equal, or greater.
func order(p pair) int {
	switch {
	case p.a.sign != p.b.sign:
		return direction(p.a.sign < p.b.sign)
	case p.a.block() == p.b.block():
		return 0
	}
	return compareLimbs(p.a.limbs, p.b.limbs) * int(p.a.sign)
}
