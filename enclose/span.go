package enclose

import (
	"metewand/api"
	"metewand/exact"
	"metewand/ratio"
	"metewand/stop"
)

// A span is an enclosure at work: a valid one but for the length of its numbers, which may be any.
type span struct{ api.Enclosure }

// given returns an enclosure of an argument.
func given(a api.Enclosure) span {
	lo, hi := number(a.Lo), number(a.Hi)
	stop.Demand(lo.Compare(hi) <= 0, api.ErrOrder)
	return span{a}
}

// number returns a number of an argument.
func number(n api.Rat) exact.Ratio {
	stop.Pass(ratio.Check(n))
	return exact.Ratio{Rat: n}
}

func fraction(p, q int) exact.Ratio { return exact.Quotient(exact.Of(p), exact.Of(q)) }

func zero() exact.Ratio { return fraction(0, 1) }

// between returns the span of two numbers in order.
func between(lo, hi exact.Ratio) span { return span{api.Enclosure{Lo: lo.Rat, Hi: hi.Rat}} }

// around returns the narrowest span that has all the numbers.
func around(first exact.Ratio, others ...exact.Ratio) span {
	return between(least(first, others...), greatest(first, others...))
}

// result returns the enclosure, unless its numbers are too long (ErrLarge).
func (a span) result() api.Enclosure {
	return api.Enclosure{Lo: a.low().Result(), Hi: a.high().Result()}
}

func (a span) low() exact.Ratio { return exact.Ratio{Rat: a.Lo} }

func (a span) high() exact.Ratio { return exact.Ratio{Rat: a.Hi} }

func (a span) has(x exact.Ratio) bool { return a.low().Compare(x) <= 0 && x.Compare(a.high()) <= 0 }

// within returns whether no number of the span is less than lo or greater than hi.
func (a span) within(lo, hi exact.Ratio) bool {
	return lo.Compare(a.low()) <= 0 && a.high().Compare(hi) <= 0
}

func (a span) plus(b span) span { return between(a.low().Plus(b.low()), a.high().Plus(b.high())) }

func (a span) minus(b span) span { return a.plus(b.negative()) }

func (a span) negative() span { return between(a.high().Negative(), a.low().Negative()) }

// times returns the products. A product is the least, and the greatest, at ends.
func (a span) times(b span) span {
	return around(a.low().Times(b.low()), a.low().Times(b.high()), a.high().Times(b.low()), a.high().Times(b.high()))
}

// over returns the quotients (ErrZero if b has 0).
func (a span) over(b span) span {
	stop.Demand(!b.has(zero()), api.ErrZero)
	return a.times(between(b.high().Inverse(), b.low().Inverse()))
}

// power returns the image under the power n. An even power is the least at 0, if the span has it, otherwise at an end.
func (a span) power(n int) span {
	low, high := fraction(1, 1), fraction(1, 1)
	for range n {
		low, high = low.Times(a.low()), high.Times(a.high())
	}
	if n > 0 && n%2 == 0 && a.has(zero()) {
		return around(zero(), low, high)
	}
	return around(low, high)
}

// part returns what of the span lies between two numbers: a span, or none.
func (a span) part(lo, hi exact.Ratio) []span {
	lo, hi = greatest(lo, a.low()), least(hi, a.high())
	if lo.Compare(hi) > 0 {
		return nil
	}
	return []span{between(lo, hi)}
}

// meet returns the numbers of both (ErrNone if there are none).
func (a span) meet(b span) span {
	parts := a.part(b.low(), b.high())
	stop.Demand(len(parts) > 0, api.ErrNone)
	return parts[0]
}

func (a span) hull(b span) span { return around(a.low(), a.high(), b.low(), b.high()) }

// solutions returns the numbers of x that are, multiplied by some number of the factor, some number of the product.
func (x span) solutions(product, factor span) []span {
	switch {
	case !factor.has(zero()):
		quotients := product.over(factor)
		return x.part(quotients.low(), quotients.high())
	case product.has(zero()):
		return []span{x}
	case product.high().Sign() < 0:
		return x.solutions(product.negative(), factor.negative())
	}
	// As the product is above 0, a solution is one with factors below 0, or one with factors above 0; these may be as near to 0 as is needed.
	var left, right []span
	if factor.low().Sign() < 0 {
		left = x.part(x.low(), product.low().Over(factor.low()))
	}
	if factor.high().Sign() > 0 {
		right = x.part(product.low().Over(factor.high()), x.high())
	}
	return append(left[:len(left):len(left)], right...)
}

// How the numbers of an enclosure lie to those of another one.
const (
	before = iota // all of them are less than all others
	mixed         // some of them are less than some others
	behind        // none of them is less than another one
)

// order returns how the numbers of a lie to those of b.
func (a span) order(b span) int {
	switch {
	case a.high().Compare(b.low()) < 0:
		return before
	case a.low().Compare(b.high()) < 0:
		return mixed
	}
	return behind
}

// below returns whether a number of a is less than one of b, for all choices of both, for none, or for some.
func (a span) below(b span) int {
	less, not := false, false // for some choice
	switch a.order(b) {
	case before:
		less = true
	case mixed:
		less = true
		fallthrough
	case behind:
		not = true
	}
	switch {
	case !not:
		return api.Yes
	case !less:
		return api.No
	}
	return api.Maybe
}
