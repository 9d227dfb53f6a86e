package dim

import (
	"maps"
	"slices"

	"metewand/api"
	"metewand/exact"
	"metewand/stop"
)

// exponents is a dimension at work: the exponents of its bases, none of them 0, and of any length.
type exponents map[string]exact.Ratio

// raise multiplies by a power of a base.
func (e exponents) raise(base string, n exact.Ratio) {
	switch before, is := e[base]; {
	case is:
		n = before.Plus(n)
		fallthrough
	default:
		e[base] = n
	}
	if n.Sign() == 0 {
		delete(e, base)
	}
}

// result returns a dimension at work as a list, unless an exponent is too large.
func result(work exponents) []api.Power {
	var list []api.Power
	for _, base := range slices.Sorted(maps.Keys(work)) {
		list = append(list, api.Power{Base: base, Exp: small(work[base])})
	}
	return list
}

// A factor is a dimension, and the power of it that is in a product.
type factor struct {
	dimension
	power exact.Ratio
}

// product multiplies factors.
func product(factors ...factor) exponents {
	work := exponents{}
	for _, f := range factors {
		for _, p := range f.powers {
			work.raise(p.Base, exact.Ratio{Rat: p.Exp}.Times(f.power))
		}
	}
	return work
}

// An operation is what is done with a second dimension, once the first one is known to be valid.
type operation struct {
	of func(second dimension) exponents
}

func (o operation) with(second []api.Power) []api.Power { return result(o.of(given(second))) }

func (d dimension) times(second dimension) exponents {
	return product(factor{d, one()}, factor{second, one()})
}

func (d dimension) over(second dimension) exponents {
	return product(factor{d, one()}, factor{second, one().Negative()})
}

// replacements returns the dimensions that stand for bases, which have to be valid.
func replacements(bases []api.DimBase) map[string]dimension {
	stand := map[string]dimension{}
	for _, b := range bases {
		stop.Demand(isBase(b.Base), api.ErrName)
		_, is := stand[b.Base]
		stop.Demand(!is, api.ErrTwice)
		stand[b.Base] = given(b.Dim)
	}
	return stand
}

// rebased returns factors that are the dimension with others in the place of its bases.
func (d dimension) rebased(stand map[string]dimension) []factor {
	var factors []factor
	for at, p := range d.powers {
		if other, is := stand[p.Base]; is {
			factors = append(factors, factor{other, exact.Ratio{Rat: p.Exp}})
		} else {
			factors = append(factors, factor{dimension{d.powers[at : at+1]}, one()})
		}
	}
	return factors
}
