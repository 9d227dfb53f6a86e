package dim

import (
	"iter"
	"strings"

	"metewand/api"
	"metewand/exact"
	"metewand/ratio"
	"metewand/stop"
)

const (
	nothing = "1" // the text of no dimension
	between = "*" // stands between two factors
	raised  = "^" // stands in front of an exponent
)

// read returns the dimension of a text at work.
func read(text string) exact.Exponents {
	work := exact.Exponents{}
	if text == nothing {
		return work
	}
	for base, exponent := range factors(text) {
		work.Raise(base, exponent)
	}
	return work
}

// factors yields the base and the exponent of each factor of a text.
func factors(text string) iter.Seq2[string, exact.Ratio] {
	return func(yield func(base string, exponent exact.Ratio) bool) {
		rest, more := text, true
		for more {
			var part string
			part, rest, more = strings.Cut(rest, between)
			if !yield(readFactor(part)) {
				return
			}
		}
	}
}

// readFactor returns the base of a factor, and its exponent, which is 1 if the factor has none.
func readFactor(text string) (base string, exponent exact.Ratio) {
	base, power, is := strings.Cut(text, raised)
	stop.Demand(isBase(base), api.ErrForm)
	if !is {
		return base, one()
	}
	n, e := ratio.Parse(power)
	stop.Demand(e == api.OK && !strings.Contains(power, "."), api.ErrForm)
	return base, exact.Ratio{Rat: n}
}
