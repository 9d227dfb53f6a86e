// Package whole is layer 1: see shared/doc/01-whole.md. It computes with whole numbers, which are strings of decimal digits.
package whole

import "metewand/api"

// Check returns the error of a whole number, otherwise OK.
func Check(a string) api.Errno {
	_, e := attempt(func() number { return read(a) })
	return e
}

// Compare returns -1 if a is less than b, 0 if they are equal, and 1 if a is greater.
func Compare(a, b string) (int, api.Errno) {
	return attempt(func() int { return order(readPair(a, b)) })
}

// Add returns the sum.
func Add(a, b string) (string, api.Errno) {
	return attempt(func() string { return single(sum{readPair(a, b)}) })
}

// Sub returns the difference.
func Sub(a, b string) (string, api.Errno) {
	return attempt(func() string { return single(difference{readPair(a, b)}) })
}

// Mul returns the product.
func Mul(a, b string) (string, api.Errno) {
	return attempt(func() string { return single(multiple{readPair(a, b)}) })
}

// Floor returns the greatest whole number that is not more than a/b, and what it leaves of a.
func Floor(a, b string) (quotient, remainder string, e api.Errno) {
	texts, e := attempt(func() [2]string { return double(floored{readPair(a, b)}) })
	return texts[0], texts[1], e
}

// Quo returns a/b, rounded towards 0, and what it leaves of a.
func Quo(a, b string) (quotient, remainder string, e api.Errno) {
	texts, e := attempt(func() [2]string { return double(truncated{readPair(a, b)}) })
	return texts[0], texts[1], e
}

// Gcd returns the greatest common divisor g, and x and y with a x + b y = g.
func Gcd(a, b string) (g, x, y string, e api.Errno) {
	texts, e := attempt(func() [3]string {
		p := readPair(a, b)
		g, x, y := divisor(p.a, p.b)
		return [3]string{g.text(), x.text(), y.text()}
	})
	return texts[0], texts[1], texts[2], e
}

// Pow returns a to the power n.
func Pow(a string, n int) (string, api.Errno) {
	return attempt(func() string {
		base := read(a)
		demand(n >= 0 && n <= api.WholePower, api.ErrValue)
		// A power that is too large in any case is not worth the work.
		demand((base.length()-1)*n < api.Digits, api.ErrLarge)
		return power(base, n).text()
	})
}

// PowMod returns the remainder of a to the power n, divided by m.
func PowMod(a, n, m string) (string, api.Errno) {
	return attempt(func() string {
		base, exponent, modulus := read(a), read(n), read(m)
		demand(exponent.sign != below && modulus.sign == above, api.ErrValue)
		return powerModulo(base, exponent, modulus).text()
	})
}

// Root returns the greatest whole number that is not less than 0, and whose power n is not more than a.
func Root(a string, n int) (string, api.Errno) {
	return attempt(func() string {
		power := read(a)
		demand(n >= 1 && n <= api.WholeRoot && power.sign != below, api.ErrValue)
		return root(power, n).text()
	})
}

// Base returns the digits of a in the base.
func Base(a string, base int) (string, api.Errno) {
	return attempt(func() string {
		n := read(a)
		demand(base >= leastBase && base <= greatestBase, api.ErrValue)
		return inBase(n, base)
	})
}

// FromBase returns the number whose digits in the base are s.
func FromBase(s string, base int) (string, api.Errno) {
	return attempt(func() string {
		demand(base >= leastBase && base <= greatestBase, api.ErrValue)
		return ofBase(s, base).text()
	})
}

// Factor returns the primes whose product is a, ascending.
func Factor(a string) ([]string, api.Errno) {
	return attempt(func() []string {
		n := read(a)
		demand(n.sign == above, api.ErrValue)
		demand(len(n.limbs) == 1 && n.limbs[0] <= api.WholeFactor, api.ErrLarge)
		return primes(int(n.limbs[0]))
	})
}
