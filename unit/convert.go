package unit

import (
	"maps"

	"metewand/api"
	"metewand/exact"
	"metewand/stop"
)

// An end of a conversion is the text of a unit, and the way to resolve it: versions have their own.
type end struct {
	text    string
	resolve func(text string) meaning
}

// A pair is the units of a conversion.
type pair struct{ from, to meaning }

// between returns the units of both ends, which need the same dimension.
func between(from, to end) pair {
	first := from.resolve(from.text)
	second := to.resolve(to.text)
	stop.Demand(maps.Equal(first.Exponents, second.Exponents), api.ErrUnits)
	return pair{first, second}
}

// A conversion goes from one unit to another one.
type conversion interface{ units() (from, to meaning) }

func (p pair) units() (from, to meaning) { return p.from, p.to }

type (
	points struct{ pair } // of numbers, which are counted from the offset of their unit
	steps  struct{ pair } // of differences of numbers
)

// converted returns the number of the second unit that is as much as x of the first one.
func converted(x exact.Ratio, c conversion) exact.Ratio {
	from, to := c.units()
	base := x.Times(from.factor)
	switch c.(type) {
	case points:
		base = base.Plus(from.offset).Minus(to.offset)
	case steps:
	}
	return base.Over(to.factor)
}
