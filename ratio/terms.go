package ratio

import (
	"iter"
	"slices"

	"metewand/api"
	"metewand/exact"
	"metewand/stop"
	"metewand/whole"
)

// terms yields the terms of the continued fraction of a number.
func terms(a exact.Ratio) iter.Seq[exact.Int] {
	over, under := a.Parts()
	return func(yield func(exact.Int) bool) {
		for p, q := over, under; q.Sign() != 0; {
			term, rest := p.Floor(q)
			if !yield(term) {
				return
			}
			p, q = q, rest
		}
	}
}

// appended returns a list with more terms behind it, in memory of its own.
func appended[T any](list []T, more ...T) []T {
	return append(list[:len(list):len(list)], more...)
}

// readTerms returns the terms of a list that a continued fraction can have.
func readTerms(list []string) []exact.Int {
	stop.Demand(len(list) > 0, api.ErrFew)
	stop.Demand(len(list) <= api.RatioTerms, api.ErrMany)
	var all []exact.Int
	for _, text := range list {
		stop.Pass(whole.Check(text))
		all = append(all, exact.Read(text))
	}
	for _, term := range all[1:] {
		stop.Demand(term.Sign() > 0, api.ErrValue)
	}
	return all
}

// ofTerms returns the number whose continued fraction has the terms.
func ofTerms(all []exact.Int) exact.Ratio {
	last := len(all) - 1
	over, under := all[last], exact.Of(1)
	for _, term := range slices.Backward(all[:last]) {
		// It is the denominator now, which does not become less by what comes before.
		stop.Demand(over.Length() <= api.Digits, api.ErrLarge)
		over, under = term.Times(over).Plus(under), over
	}
	return exact.Quotient(over, under)
}
