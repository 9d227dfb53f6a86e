package whole_test

import (
	"slices"
	"strconv"
	"testing"

	"metewand/api"
	"metewand/whole"
)

// must returns the result of a call that has no error.
func must(t *testing.T, call string) func(s string, e api.Errno) string {
	return func(s string, e api.Errno) string {
		t.Helper()
		if e != api.OK {
			t.Errorf("%s: error %d", call, e)
			return "0"
		}
		return s
	}
}

func same(t *testing.T, law string, a, b string) {
	t.Helper()
	if a != b {
		t.Errorf("%s: %s is not %s", law, brief(a), brief(b))
	}
}

// P1.9
func TestRing(t *testing.T) {
	seed := source(9)
	for range 600 {
		size := []int{3, 9, 18, 60, 130}[seed.below(5)]
		a, b, c := seed.number(size), seed.number(size), seed.number(size)
		add := func(x, y string) string { return must(t, "Add "+x+" "+y)(whole.Add(x, y)) }
		sub := func(x, y string) string { return must(t, "Sub "+x+" "+y)(whole.Sub(x, y)) }
		mul := func(x, y string) string { return must(t, "Mul "+x+" "+y)(whole.Mul(x, y)) }
		same(t, "order of a sum", add(a, b), add(b, a))
		same(t, "grouping of a sum", add(add(a, b), c), add(a, add(b, c)))
		same(t, "order of a product", mul(a, b), mul(b, a))
		same(t, "grouping of a product", mul(mul(a, b), c), mul(a, mul(b, c)))
		same(t, "distribution", mul(a, add(b, c)), add(mul(a, b), mul(a, c)))
		same(t, "a difference undoes a sum", sub(add(a, b), b), a)
		same(t, "a sum undoes a difference", add(sub(a, b), b), a)
		same(t, "a number less itself", sub(a, a), "0")
		same(t, "adding 0", add(a, "0"), a)
		same(t, "multiplying with 1", mul(a, "1"), a)
		same(t, "multiplying with 0", mul(a, "0"), "0")
	}
}

// P1.10
func TestDivision(t *testing.T) {
	check := func(a, b string) {
		if b == "0" || length(a) > 400 {
			return
		}
		q, r, e := whole.Floor(a, b)
		p, s, f := whole.Quo(a, b)
		if e != api.OK || f != api.OK {
			t.Fatal(a, b, e, f)
		}
		same(t, "Floor of "+a+", "+b, naiveAdd(naiveMul(q, b), r), a)
		same(t, "Quo of "+a+", "+b, naiveAdd(naiveMul(p, b), s), a)
		if naiveCompare(naiveAbs(r), naiveAbs(b)) >= 0 || naiveCompare(naiveAbs(s), naiveAbs(b)) >= 0 {
			t.Errorf("remainders %s and %s of %s, %s", r, s, a, b)
		}
		if r != "0" && (r[0] == '-') != (b[0] == '-') || s != "0" && (s[0] == '-') != (a[0] == '-') {
			t.Errorf("signs of %s and %s of %s, %s", r, s, a, b)
		}
	}
	for a, b := range pairs(10, 6) {
		check(a, b)
	}
	// Dividends near multiples of the divisor, where a digit of the quotient is easily one too great.
	seed := source(100)
	for range 500 {
		b := seed.number(150)
		near := naiveMul(b, seed.number(200))
		check(near, b)
		check(naiveAdd(near, "1"), b)
		check(naiveSub(near, "1"), b)
		check(naiveAdd(near, naiveSub(b, "1")), b)
	}
	for _, b := range []string{"1000000000000000001", "999999999999999999999999999", "500000000000000000000000001", "1000000000999999999", "499999999999999999999999999", "9223372036854775808", "18446744073709551616", "340282366920938463463374607431768211455", "79228162514264337593543950336"} {
		for k := range 60 {
			power := naivePow("10", 20+6*k)
			for _, d := range []string{"-1", "0", "1"} {
				check(naiveAdd(power, d), b)
				check(naiveSub(naiveMul(b, power), naiveAdd(d, "1")), b)
				check(naiveAdd(naivePow("2", 64+5*k), d), b)
			}
		}
	}
}

// P1.11
func TestOrder(t *testing.T) {
	seed := source(11)
	for range 800 {
		size := []int{1, 9, 10, 30, 190}[seed.below(5)]
		a, b, c := seed.number(size), seed.number(size), seed.number(size)
		compare := func(x, y string) int {
			n, e := whole.Compare(x, y)
			if e != api.OK {
				t.Fatal(x, y, e)
			}
			return n
		}
		order := compare(a, b)
		if order != -compare(b, a) || (order == 0) != (a == b) || compare(a, a) != 0 {
			t.Error("not a total order:", a, b)
		}
		if order <= 0 && compare(b, c) <= 0 && compare(a, c) > 0 {
			t.Error("not transitive:", a, b, c)
		}
		if compare(must(t, "Add")(whole.Add(a, c)), must(t, "Add")(whole.Add(b, c))) != order {
			t.Error("a sum does not keep the order:", a, b, c)
		}
		if c = naiveAbs(c); c != "0" && compare(must(t, "Mul")(whole.Mul(a, c)), must(t, "Mul")(whole.Mul(b, c))) != order {
			t.Error("a product does not keep the order:", a, b, c)
		}
	}
}

// divides returns whether b is a multiple of a.
func divides(t *testing.T, a, b string) bool {
	if a == "0" {
		return b == "0"
	}
	_, r, e := whole.Floor(b, a)
	if e != api.OK {
		t.Fatal(a, b, e)
	}
	return r == "0"
}

// checkDivisor checks what P1.4 and P1.12 say of Gcd, with a common divisor that is known.
func checkDivisor(t *testing.T, a, b, common string) {
	t.Helper()
	g, x, y, e := whole.Gcd(a, b)
	if e != api.OK {
		t.Fatal(a, b, e)
	}
	name := "Gcd of " + a + ", " + b
	same(t, name, naiveAdd(naiveMul(a, x), naiveMul(b, y)), g)
	if g[0] == '-' || !divides(t, g, a) || !divides(t, g, b) || !divides(t, common, g) {
		t.Errorf("%s: %s is not the greatest divisor", name, g)
	}
	if b == "0" {
		return
	}
	period, _, e := whole.Quo(naiveAbs(b), g)
	if e != api.OK || x[0] == '-' || naiveCompare(x, period) >= 0 {
		t.Errorf("%s: x is %s", name, x)
	}
}

// P1.12
func TestDivisor(t *testing.T) {
	for a, b := range pairs(12, 4) {
		checkDivisor(t, a, b, "1")
	}
	seed := source(120)
	for range 800 {
		common := seed.number(130)
		if common == "0" {
			continue
		}
		checkDivisor(t, naiveMul(common, seed.number(130)), naiveMul(common, seed.number(200)), common)
	}
	// Neighbours of Fibonacci's numbers take the most steps of Euclid's algorithm.
	a, b := "1", "1"
	for length(b) < 400 {
		if n := length(b) % 37; n < 2 {
			checkDivisor(t, a, b, "1")
			checkDivisor(t, b, "-"+a, "1")
		}
		a, b = b, naiveAdd(a, b)
	}
	// Quotients of all sizes, one after the other.
	a, b = "0", "7"
	for length(b) < 380 {
		quotient := naiveAdd(naiveAbs(seed.number(1+seed.below(25))), "1")
		a, b = b, naiveAdd(a, naiveMul(b, quotient))
		checkDivisor(t, a, b, "7")
		checkDivisor(t, "-"+b, a, "7")
	}
}

// P1.13
func TestPowers(t *testing.T) {
	seed := source(13)
	for range 300 {
		a := seed.number([]int{1, 2, 5, 9, 12}[seed.below(5)])
		m, n := seed.below(16), seed.below(16)
		low, high := must(t, "Pow")(whole.Pow(a, m)), must(t, "Pow")(whole.Pow(a, n))
		both := must(t, "Pow")(whole.Pow(a, m+n))
		same(t, "powers of "+a, naiveMul(low, high), both)
		same(t, "a power of "+a, naivePow(a, m), low)
		modulus := naiveAdd(naiveAbs(seed.number([]int{1, 3, 9, 40, 300}[seed.below(5)])), "1")
		if length(modulus) > 400 {
			continue
		}
		_, rest, e := whole.Floor(both, modulus)
		if e != api.OK {
			t.Fatal(both, modulus, e)
		}
		same(t, "PowMod of "+a, must(t, "PowMod")(whole.PowMod(a, strconv.Itoa(m+n), modulus)), rest)
	}
	// Exponents that no power could have.
	for range 40 {
		a, modulus := seed.number(150), naiveAdd(naiveAbs(seed.number(190)), "1")
		m, n := naiveAbs(seed.number(60)), naiveAbs(seed.number(390))
		x, y := must(t, "PowMod")(whole.PowMod(a, m, modulus)), must(t, "PowMod")(whole.PowMod(a, n, modulus))
		_, want, e := whole.Floor(must(t, "Mul")(whole.Mul(x, y)), modulus)
		if e != api.OK {
			t.Fatal(x, y, e)
		}
		same(t, "PowMod of a sum", must(t, "PowMod")(whole.PowMod(a, naiveAdd(m, n), modulus)), want)
	}
}

// P1.14
func TestRoots(t *testing.T) {
	seed := source(14)
	check := func(a string, n int) {
		r := must(t, "Root of "+a)(whole.Root(a, n))
		if r[0] == '-' || naiveCompare(naivePow(r, n), a) > 0 || naiveCompare(naivePow(naiveAdd(r, "1"), n), a) <= 0 {
			t.Errorf("Root(%s, %d) is %s", a, n, r)
		}
	}
	for n := 1; n <= 20; n++ {
		for _, size := range []int{1, 2, 3, 9, 10, 18, 19, 28, 100, 399, 400} {
			check(naiveAbs(seed.number(size)), n)
		}
		for range 6 {
			r := naiveAdd(naiveAbs(seed.number(380/n)), "1")
			power := naivePow(r, n)
			same(t, "the root of a power", must(t, "Root")(whole.Root(power, n)), r)
			same(t, "the root of what is less", must(t, "Root")(whole.Root(naiveSub(power, "1"), n)), naiveSub(r, "1"))
			check(naiveAdd(power, "1"), n)
		}
	}
}

// P1.15
func TestBases(t *testing.T) {
	seed := source(15)
	for base := 2; base <= 36; base++ {
		for _, size := range []int{1, 2, 9, 10, 19, 50, 100, 399, 400} {
			a := seed.number(size)
			digits := must(t, "Base")(whole.Base(a, base))
			same(t, "FromBase of Base "+strconv.Itoa(base), must(t, "FromBase")(whole.FromBase(digits, base)), a)
			same(t, "Horner's sum of Base "+strconv.Itoa(base), horner(digits, base), a)
		}
		const all = "0123456789abcdefghijklmnopqrstuvwxyz"
		for range 10 {
			s := []byte{all[1+seed.below(base-1)]}
			for range seed.below(250) {
				s = append(s, all[seed.below(base)])
			}
			text := []string{"", "-"}[seed.below(2)] + string(s)
			a := must(t, "FromBase")(whole.FromBase(text, base))
			same(t, "Base of FromBase "+strconv.Itoa(base), must(t, "Base")(whole.Base(a, base)), text)
		}
	}
}

// horner returns the number that digits in a base are.
func horner(digits string, base int) string {
	out, minus := "0", false
	for _, r := range digits {
		switch {
		case r == '-':
			minus = true
			continue
		case r >= 'a':
			r += 10 - 'a'
		default:
			r -= '0'
		}
		out = naiveAdd(naiveMul(out, strconv.Itoa(base)), strconv.Itoa(int(r)))
	}
	if minus {
		return naiveNegative(out)
	}
	return out
}

// P1.16
func TestPrimes(t *testing.T) {
	composite := make([]bool, api.WholeFactor+1)
	for d := 2; d*d <= api.WholeFactor; d++ {
		for n := d * d; n <= api.WholeFactor; n += d {
			composite[n] = true
		}
	}
	for n := 1; n <= api.WholeFactor; n++ {
		if n > 3000 && n < 998000 && n%97 != 0 && (n < 250000 || n > 252000) {
			continue
		}
		factors, e := whole.Factor(strconv.Itoa(n))
		product, numbers := 1, []int{}
		for _, f := range factors {
			p, err := strconv.Atoi(f)
			if err != nil || p < 2 || p > n || composite[p] || strconv.Itoa(p) != f {
				t.Fatalf("Factor(%d): %v", n, factors)
			}
			product *= p
			numbers = append(numbers, p)
		}
		if e != api.OK || product != n || !slices.IsSorted(numbers) {
			t.Fatalf("Factor(%d): %v, error %d", n, factors, e)
		}
	}
}
