package dim

import (
	"metewand/api"
	"metewand/exact"
	"metewand/stop"
)

// A factor is a dimension, and the power of it that is in a product.
type factor struct {
	dimension
	power exact.Ratio
}

// product multiplies factors.
func product(factors ...factor) exact.Exponents {
	work := exact.Exponents{}
	for _, f := range factors {
		work.Multiply(f.powers, f.power)
	}
	return work
}

// An operation is what is done with a second dimension, once the first one is known to be valid.
type operation struct {
	of func(second dimension) exact.Exponents
}

func (o operation) with(second []api.Power) []api.Power { return o.of(given(second)).Result() }

func (d dimension) times(second dimension) exact.Exponents {
	return product(factor{d, one()}, factor{second, one()})
}

func (d dimension) over(second dimension) exact.Exponents {
	return product(factor{d, one()}, factor{second, one().Negative()})
}

// replacements returns the dimensions that stand for bases, which have to be valid.
func replacements(bases []api.DimBase) map[string]dimension {
	stand := map[string]dimension{}
	for _, b := range bases {
		stop.Demand(isBase(b.Base), api.ErrName)
		_, is := stand[b.Base]
		stop.Demand(!is, api.ErrTwice)
		stand[b.Base] = given(b.Dim)
	}
	return stand
}

// rebased returns factors that are the dimension with others in the place of its bases.
func (d dimension) rebased(stand map[string]dimension) []factor {
	var factors []factor
	for at, p := range d.powers {
		if other, is := stand[p.Base]; is {
			factors = append(factors, factor{other, exact.Ratio{Rat: p.Exp}})
		} else {
			factors = append(factors, factor{dimension{d.powers[at : at+1]}, one()})
		}
	}
	return factors
}
