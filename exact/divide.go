package exact

import (
	"metewand/api"
	"metewand/stop"
)

// Quo returns the quotient, rounded towards 0, and what it leaves of a (ErrZero if b is 0).
func (a Int) Quo(b Int) (quotient, rest Int) {
	q, r := divideLimbs(a.limbs, b.limbs)
	return signed(a.with(b.sign), q), signed(a.sign, r)
}

// Floor returns the quotient, rounded down, and what it leaves of a (ErrZero if b is 0).
func (a Int) Floor(b Int) (quotient, rest Int) {
	quotient, rest = a.Quo(b)
	if rest.with(b.sign) == below {
		quotient, rest = quotient.Minus(small(1)), rest.Plus(b)
	}
	return quotient, rest
}

// divideLimbs returns the quotient, rounded down, and the remainder, both in memory of their own.
func divideLimbs(a, b []limb) (quotient, rest []limb) {
	switch kindOf(b) {
	case zero:
		stop.Throw(api.ErrZero)
	case short:
		quotient = make([]limb, len(a))
		left := divideShort(quotient, a, b[0])
		return trim(quotient), trim([]limb{left})
	}
	if compareLimbs(a, b) < 0 {
		return nil, copied(a)
	}
	return divideLong(a, b)
}

// divideShort divides a by a number from 1 to radix. The quotient goes into room, which may be a itself.
func divideShort(room, a []limb, b limb) (rest limb) {
	for i := len(a) - 1; i >= 0; i-- {
		part := uint64(rest)*radix + uint64(a[i])
		room[i] = limb(part / uint64(b))
		rest = limb(part % uint64(b))
	}
	return rest
}

// divideLong divides a by b, which has two limbs at least and is not greater, digit by digit from the high end.
func divideLong(a, b []limb) (quotient, rest []limb) {
	// With a high first limb of the divisor a guess of a digit is too great by 1 at most.
	scale := limb(radix / (uint64(b[len(b)-1]) + 1))
	rest = scaled(a, scale)
	divisor := scaled(b, scale)[:len(b):len(b)]
	quotient = make([]limb, len(a)-len(b)+1)
down:
	for at := len(a) - len(b); at >= 0; at-- {
		part := rest[at : at+len(b)+1 : at+len(b)+1]
		for digit := guess(part, divisor); digit > 0; digit-- {
			if takeTimes(part, divisor, digit) {
				quotient[at] = digit
				continue down
			}
			giveTimes(part, divisor, digit)
		}
	}
	divideShort(rest, rest, scale)
	return trim(quotient), trim(rest)
}

// scaled returns a * factor, with one limb more than a.
func scaled(a []limb, factor limb) []limb {
	result := make([]limb, len(a)+1)
	var on limb
	for i, x := range a {
		result[i], on = x.times(factor, on)
	}
	result[len(a)] = on
	return result
}

// guess returns how many times the divisor goes into the part, which has one limb more: that many, or one too many.
func guess(part, divisor []limb) limb {
	top := len(divisor)
	high := uint64(part[top])*radix + uint64(part[top-1])
	first, second := uint64(divisor[top-1]), uint64(divisor[top-2])
	digit, rest := high/first, high%first
	for rest < radix && (digit >= radix || digit*second > rest*radix+uint64(part[top-2])) {
		digit--
		rest += first
	}
	return limb(digit)
}

// takeTimes takes the divisor digit times from the part, and returns whether the part was as much as that.
func takeTimes(part, divisor []limb, digit limb) bool {
	var low, on, borrow limb
	for i, d := range divisor {
		low, on = d.times(digit, on)
		part[i], borrow = part[i].minus(low, borrow)
	}
	top := len(divisor)
	part[top], borrow = part[top].minus(on, borrow)
	return borrow == 0
}

// giveTimes takes back what takeTimes did.
func giveTimes(part, divisor []limb, digit limb) {
	var low, on, carry limb
	for i, d := range divisor {
		low, on = d.times(digit, on)
		part[i], carry = part[i].plus(low, carry)
	}
	top := len(divisor)
	part[top], _ = part[top].plus(on, carry)
}
