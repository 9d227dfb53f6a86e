package exact

import (
	"strings"

	"metewand/api"
	"metewand/stop"
)

// A Ratio is a rational number at work: a valid one but for its length, which may be any. Equal numbers are equal structs.
type Ratio struct{ api.Rat }

// Quotient returns p/q (ErrZero if q is 0).
func Quotient(p, q Int) Ratio {
	stop.Demand(q.sign != none, api.ErrZero)
	g := p.Divisor(q)
	g.sign = q.sign
	return ratioOf(p.share(g), q.share(g))
}

// ratioOf returns p/q, which is in lowest terms with q above 0.
func ratioOf(p, q Int) Ratio { return Ratio{api.Rat{Num: p.Text(), Den: q.Text()}} }

// Whole returns a whole number as a rational one.
func Whole(n Int) Ratio { return ratioOf(n, small(1)) }

// share returns a divided by a divisor of it.
func (a Int) share(divisor Int) Int {
	quotient, _ := a.Quo(divisor)
	return quotient
}

// Lowest returns whether 1 is the only common divisor of numerator and denominator that is above 0.
func Lowest(a api.Rat) bool {
	p, fits := word(a.Num)
	q, both := word(a.Den)
	if fits && both {
		g := wordDivisor(p, q)
		return g == 1 || g == -1
	}
	return a.Den == "1" || Read(a.Num).Divisor(Read(a.Den)).Compare(small(1)) == 0
}

// Parts returns the numerator and the denominator.
func (a Ratio) Parts() (over, under Int) { return Read(a.Num), Read(a.Den) }

// Length is how many decimal digits the numerator has, or the denominator, if it has more.
func (a Ratio) Length() int { return max(len(strings.TrimPrefix(a.Num, below.mark())), len(a.Den)) }

// Result returns the number, unless it is too long for a result (ErrLarge).
func (a Ratio) Result() api.Rat {
	stop.Demand(a.Length() <= api.Digits, api.ErrLarge)
	return a.Rat
}

// Sign is -1, 0 or 1, as the number is less than 0, 0, or greater.
func (a Ratio) Sign() int {
	switch {
	case a.Num == "0":
		return 0
	case strings.HasPrefix(a.Num, "-"):
		return -1
	}
	return 1
}

// Negative returns the number with the other sign.
func (a Ratio) Negative() Ratio {
	switch a.Sign() {
	case 1:
		a.Num = "-" + a.Num
	case -1:
		a.Num = a.Num[1:]
	}
	return a
}

// Inverse returns 1/a (ErrZero if a is 0).
func (a Ratio) Inverse() Ratio {
	switch a.Sign() {
	case 0:
		stop.Throw(api.ErrZero)
	case -1:
		return Ratio{api.Rat{Num: "-" + a.Den, Den: a.Num[1:]}}
	}
	return Ratio{api.Rat{Num: a.Den, Den: a.Num}}
}

// Compare returns -1, 0 or 1, as a is less than b, equal, or greater.
func (a Ratio) Compare(b Ratio) int {
	if a == b {
		return 0
	}
	if c, ok := crossing(a, b); ok {
		return direction(c.p*c.s < c.r*c.q)
	}
	if a.Sign() != b.Sign() {
		return direction(a.Sign() < b.Sign())
	}
	p, q := a.Parts()
	r, s := b.Parts()
	return p.Times(s).Compare(r.Times(q))
}

// Plus returns a + b. Only what the denominators have in common can be left of the sum's.
func (a Ratio) Plus(b Ratio) Ratio {
	if c, ok := crossing(a, b); ok {
		return wordQuotient(c.p*c.s+c.r*c.q, c.q*c.s)
	}
	p, q := a.Parts()
	r, s := b.Parts()
	common := q.Divisor(s)
	q = q.share(common)
	sum := p.Times(s.share(common)).Plus(r.Times(q))
	common = sum.Divisor(common)
	return ratioOf(sum.share(common), q.Times(s.share(common)))
}

// Minus returns a - b.
func (a Ratio) Minus(b Ratio) Ratio { return a.Plus(b.Negative()) }

// Times returns a b. What a numerator and a denominator have in common, they have across.
func (a Ratio) Times(b Ratio) Ratio {
	if c, ok := crossing(a, b); ok {
		return wordQuotient(c.p*c.r, c.q*c.s)
	}
	p, q := a.Parts()
	r, s := b.Parts()
	pair := pairing(a, b)
	g, h := pair(func() Int { return p.Divisor(s) }, func() Int { return r.Divisor(q) })
	over, under := pair(func() Int { return p.share(g).Times(r.share(h)) }, func() Int { return q.share(h).Times(s.share(g)) })
	return ratioOf(over, under)
}

// Over returns a / b (ErrZero if b is 0).
func (a Ratio) Over(b Ratio) Ratio { return a.Times(b.Inverse()) }

// Power returns a to the power n (ErrZero if a is 0 and n is below 0).
func (a Ratio) Power(n int) Ratio {
	if n < 0 {
		a = a.Inverse()
	}
	p, q := a.Parts()
	return ratioOf(p.Power(max(n, -n)), q.Power(max(n, -n)))
}

// Split returns the greatest whole number that is not more than a, and what it leaves of a.
func (a Ratio) Split() (Int, Ratio) {
	p, q := a.Parts()
	floor, rest := p.Floor(q)
	return floor, ratioOf(rest, q)
}
