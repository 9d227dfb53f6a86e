// Package whole is layer 1: see shared/doc/01-whole.md. It computes with whole numbers, which are strings of decimal digits.
package whole

import (
	"strconv"

	"metewand/api"
	"metewand/exact"
	"metewand/stop"
)

// longest is how many digits a valid number has at most, in any base: those of the greatest one in base 2.
const longest = 1329

// Check returns the error of a whole number, otherwise OK.
func Check(a string) api.Errno {
	_, e := stop.Attempt(func() string {
		check(a)
		return ""
	})
	return e
}

// Compare returns -1 if a is less than b, 0 if they are equal, and 1 if a is greater.
func Compare(a, b string) (int, api.Errno) {
	return stop.Attempt(func() int {
		p := readPair(a, b)
		return p.a.Compare(p.b)
	})
}

// Add returns the sum.
func Add(a, b string) (string, api.Errno) {
	return stop.Attempt(func() string { return single(sum{readPair(a, b)}) })
}

// Sub returns the difference.
func Sub(a, b string) (string, api.Errno) {
	return stop.Attempt(func() string { return single(difference{readPair(a, b)}) })
}

// Mul returns the product.
func Mul(a, b string) (string, api.Errno) {
	return stop.Attempt(func() string { return single(multiple{readPair(a, b)}) })
}

// Floor returns the greatest whole number that is not more than a/b, and what it leaves of a.
func Floor(a, b string) (quotient, remainder string, e api.Errno) {
	texts, e := stop.Attempt(func() [2]string { return double(floored{readPair(a, b)}) })
	return texts[0], texts[1], e
}

// Quo returns a/b, rounded towards 0, and what it leaves of a.
func Quo(a, b string) (quotient, remainder string, e api.Errno) {
	texts, e := stop.Attempt(func() [2]string { return double(truncated{readPair(a, b)}) })
	return texts[0], texts[1], e
}

// Gcd returns the greatest common divisor g, and x and y with a x + b y = g.
func Gcd(a, b string) (g, x, y string, e api.Errno) {
	texts, e := stop.Attempt(func() [3]string {
		p := readPair(a, b)
		g, x, y := p.a.Combine(p.b)
		return [3]string{text(g), text(x), text(y)}
	})
	return texts[0], texts[1], texts[2], e
}

// Pow returns a to the power n.
func Pow(a string, n int) (string, api.Errno) {
	return stop.Attempt(func() string {
		base := read(a)
		stop.Demand(n >= 0 && n <= api.WholePower, api.ErrValue)
		// A power that is too large in any case is not worth the work.
		stop.Demand((base.Length()-1)*n < api.Digits, api.ErrLarge)
		return text(base.Power(n))
	})
}

// PowMod returns the remainder of a to the power n, divided by m.
func PowMod(a, n, m string) (string, api.Errno) {
	return stop.Attempt(func() string {
		base, exponent, modulus := read(a), read(n), read(m)
		stop.Demand(exponent.Sign() >= 0 && modulus.Sign() > 0, api.ErrValue)
		return text(base.PowerModulo(exponent, modulus))
	})
}

// Root returns the greatest whole number that is not less than 0, and whose power n is not more than a.
func Root(a string, n int) (string, api.Errno) {
	return stop.Attempt(func() string {
		power := read(a)
		stop.Demand(n >= 1 && n <= api.WholeRoot && power.Sign() >= 0, api.ErrValue)
		return text(power.Root(n))
	})
}

// Base returns the digits of a in the base.
func Base(a string, base int) (string, api.Errno) {
	return stop.Attempt(func() string {
		n := read(a)
		stop.Demand(base >= exact.LeastBase && base <= exact.GreatestBase, api.ErrValue)
		return n.InBase(base)
	})
}

// FromBase returns the number whose digits in the base are s.
func FromBase(s string, base int) (string, api.Errno) {
	return stop.Attempt(func() string {
		stop.Demand(base >= exact.LeastBase && base <= exact.GreatestBase, api.ErrValue)
		stop.Demand(exact.Width(s, base) <= longest, api.ErrLarge)
		return text(exact.OfBase(s, base))
	})
}

// Factor returns the primes whose product is a, ascending.
func Factor(a string) ([]string, api.Errno) {
	return stop.Attempt(func() []string {
		n := read(a)
		stop.Demand(n.Sign() > 0, api.ErrValue)
		stop.Demand(n.Compare(exact.Of(api.WholeFactor)) <= 0, api.ErrLarge)
		count, _ := strconv.Atoi(a)
		return primes(count)
	})
}
