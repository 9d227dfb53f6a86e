package enclose

import (
	"slices"

	"metewand/exact"
)

// A series is a sum of parts of terms, none of which is below 0.
type series struct {
	first   bounds                          // the term 0
	factor  exact.Ratio                     // what a term is multiplied by to be the next one
	divisor func(n int) int                 // and what the term n is divided by then, which never becomes less
	part    func(n int, term bounds) bounds // what is added: no farther from 0 than the term
}

// terms yields the numbers of the terms, and their bounds.
func (s series) terms(yield func(n int, term bounds) bool) {
	over, under := s.factor.Parts()
	for n, term := 0, s.first; yield(n, term); {
		n++
		term = term.times(over).over(under.Times(exact.Of(s.divisor(n))))
	}
}

// halving returns whether each term behind the term n is at most half of the one before it, so that all together are no more than the term n.
func (s series) halving(n int) bool {
	return s.factor.Compare(fraction(s.divisor(n+1), 2)) <= 0
}

// sum returns bounds of the sum. A term that is known not to be more than 1 has no use, as it is rounded up to 1 ever after.
func (s series) sum() bounds {
	var total, rest bounds
adding:
	for n, term := range s.terms {
		total = total.plus(s.part(n, term))
		switch {
		case !s.halving(n):
			continue adding
		case term.high.Compare(exact.Of(1)) <= 0:
			rest = term
			break adding
		}
	}
	return total.wider(rest.high)
}

// The signs of the powers of x in the series of the elementary functions whose terms are powers of x over factorials; they come again after four.
const period = 4

func exponentialSigns() []int { return []int{1, 1, 1, 1} }

func sineSigns() []int { return []int{0, 1, 0, -1} }

func cosineSigns() []int { return []int{1, 0, -1, 0} }

// turned returns the signs with which the series at a number is that at its negative.
func turned(signs []int) []int {
	out := slices.Clone(signs)
	for n := 1; n < len(out); n += 2 {
		out[n] = -out[n]
	}
	return out
}

// powerSum returns bounds of the sum of the powers of x over factorials, with signs, times a power of ten.
func powerSum(x exact.Ratio, signs []int, places int) bounds {
	if x.Sign() < 0 {
		x, signs = x.Negative(), turned(signs)
	}
	return series{
		first:   whole(exact.Ten(places)),
		factor:  x,
		divisor: func(n int) int { return n },
		part:    func(n int, term bounds) bounds { return term.times(exact.Of(signs[n%period])) },
	}.sum()
}

// areaTangent returns bounds of the sum of the odd powers of x, each over its exponent, times a power of ten: half the logarithm of 1 + x over 1 - x. Without its sign, x is at most 1/2.
func areaTangent(x exact.Ratio, places int) bounds {
	if x.Sign() < 0 {
		return areaTangent(x.Negative(), places).times(exact.Of(-1))
	}
	return series{
		first:   scaled(x, places),
		factor:  x.Times(x),
		divisor: func(int) int { return 1 },
		part:    func(n int, term bounds) bounds { return term.over(exact.Of(2*n + 1)) },
	}.sum()
}
