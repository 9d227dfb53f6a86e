package exact

import (
	"iter"
	"slices"
)

// The bases in which numbers can be written.
const (
	LeastBase    = 2
	decimal      = 10
	GreatestBase = 36
)

// digitOf returns what a character is as a digit, or GreatestBase if it is none.
func digitOf(r rune) int {
	switch {
	case r >= '0' && r <= '9':
		return int(r - '0')
	case r >= 'a' && r <= 'z':
		return int(r-'a') + decimal
	}
	return GreatestBase
}

// character returns the character of a digit.
func character(digit limb) byte {
	if digit < decimal {
		return byte('0' + digit)
	}
	return byte('a' + digit - decimal)
}

// together returns how many digits of the base fit into a limb in any case.
func together(base int) int {
	count := 5
	switch {
	case base <= 10:
		count++
		fallthrough
	case base <= 13:
		count++
		fallthrough
	case base <= 19:
		count++
		fallthrough
	case base <= 31:
		count++
	}
	return count
}

// digits yields the digits of a number in the base, the lowest one first; of 0 it yields none.
func digits(limbs []limb, base int) iter.Seq[limb] {
	count, step := together(base), limb(base)
	unit := limb(1)
	for range count {
		unit *= step
	}
	return func(yield func(limb) bool) {
		for rest := copied(limbs); len(rest) > 0; {
			part := divideShort(rest, rest, unit)
			rest = trim(rest)
			for i := 0; i < count && (len(rest) > 0 || part > 0); i++ {
				if !yield(part % step) {
					return
				}
				part /= step
			}
		}
	}
}

// InBase returns the digits of the number in the base.
func (a Int) InBase(base int) string {
	if a.sign == none {
		return "0"
	}
	var out []byte
	for digit := range digits(a.limbs, base) {
		out = append(out, character(digit))
	}
	out = append(out, a.mark()...)
	slices.Reverse(out)
	return string(out)
}

// OfBase returns the number whose digits in the base are a text, which has to be of that form (ErrForm).
func OfBase(text string, base int) Int {
	s, digits := split(text, base)
	var limbs []limb
	for count := together(base); digits != ""; {
		count = min(count, len(digits))
		limbs = appendDigits(limbs, digits[:count], limb(base))
		digits = digits[count:]
	}
	return signed(s, limbs)
}

// appendDigits puts some digits behind those that the number has in the base. It changes the limbs.
func appendDigits(limbs []limb, digits string, base limb) []limb {
	unit, on := limb(1), limb(0)
	for _, r := range digits {
		unit *= base
		on = on*base + limb(digitOf(r))
	}
	for i, x := range limbs {
		limbs[i], on = x.times(unit, on)
	}
	if on == 0 {
		return limbs
	}
	return append(limbs, on)
}
