package ratio

import "metewand/exact"

// simplest returns the simplest number that is greater than low and less than high.
func simplest(low, high exact.Ratio) exact.Ratio {
	switch {
	case low.Sign() < 0 && high.Sign() > 0:
		return exact.Whole(exact.Of(0))
	case low.Sign() < 0:
		return descend(high.Negative(), low.Negative()).Negative()
	}
	return descend(low, high)
}

// descend returns the simplest number that is greater than low and less than high, both of which are not less than 0. It goes down the tree of fractions, by one term of the continued fraction at a time.
func descend(low, high exact.Ratio) exact.Ratio {
	var found []exact.Int
	p, q := low.Parts()
	r, s := high.Parts()
down:
	term, rest := p.Floor(q)
	next := term.Plus(exact.Of(1))
	if next.Times(s).Compare(r) < 0 {
		return ofTerms(appended(found, next))
	}
	found = append(found, term)
	// Both ends without the term, upside down; s becomes 0 where there is no upper end any more.
	p, q, r, s = s, r.Minus(term.Times(s)), q, rest
	goto down
}

// A closest keeps, of the things that it is shown, the one that is least far away, and of two as far away the better one.
type closest[T any] struct {
	kept   T
	far    exact.Ratio
	some   bool
	better func(a, b T) bool
}

// see shows it a thing that is so far away.
func (c *closest[T]) see(thing T, far exact.Ratio) {
	order := -1
	if c.some {
		order = far.Compare(c.far)
	}
	if order < 0 || order == 0 && c.better(thing, c.kept) {
		c.kept, c.far, c.some = thing, far, true
	}
}

// near returns the number nearest to a whose denominator is not more than most. It is one of two: the last convergent with such a denominator, and the last such number on the way to the next one.
func near(a exact.Ratio, most exact.Int) exact.Ratio {
	zero, one := exact.Of(0), exact.Of(1)
	p, q, lastP, lastQ := one, zero, zero, one
	for term := range terms(a) {
		nextP, nextQ := term.Times(p).Plus(lastP), term.Times(q).Plus(lastQ)
		if nextQ.Compare(most) > 0 {
			steps, _ := most.Minus(lastQ).Floor(q)
			c := closest[exact.Ratio]{better: simpler}
			for _, b := range [...]exact.Ratio{exact.Quotient(p, q), exact.Quotient(steps.Times(p).Plus(lastP), steps.Times(q).Plus(lastQ))} {
				c.see(b, distance(a, b))
			}
			return c.kept
		}
		p, q, lastP, lastQ = nextP, nextQ, p, q
	}
	return a
}

// distance returns how far two numbers are from each other.
func distance(a, b exact.Ratio) exact.Ratio {
	if a.Compare(b) < 0 {
		a, b = b, a
	}
	return a.Minus(b)
}

// simpler returns whether a is simpler than b, which is not its negative: of these two, 0 would be nearer.
func simpler(a, b exact.Ratio) bool {
	p, q := a.Parts()
	r, s := b.Parts()
	if order := q.Compare(s); order != 0 {
		return order < 0
	}
	return p.Size().Compare(r.Size()) < 0
}
