package dim

import (
	"slices"
	"strings"

	"metewand/api"
	"metewand/exact"
	"metewand/ratio"
	"metewand/stop"
)

// powers is a list as it is given, which can be anything.
type powers []api.Power

// A dimension is a list that is known to be valid.
type dimension struct{ powers }

// given returns the dimension that is given, which has to be valid.
func given(d []api.Power) dimension {
	stop.Pass(powers(d).check())
	return dimension{d}
}

// all returns the dimensions of a list, which have to be valid.
func all(l [][]api.Power) []dimension {
	var list []dimension
	for _, d := range l {
		list = append(list, given(d))
	}
	return list
}

// check returns the error of a list of powers, otherwise OK. The bytes of a base that is not there come before those of all others.
func (l powers) check() api.Errno {
	before := ""
	for _, p := range l {
		if !isBase(p.Base) {
			return api.ErrName
		}
		if p.Base <= before {
			return api.ErrOrder
		}
		if e := ratio.Check(p.Exp); e != api.OK {
			return e
		}
		if p.Exp == zero().Rat {
			return api.ErrValue
		}
		before = p.Base
	}
	return api.OK
}

// isBase returns whether a text is the name of a base.
func isBase(text string) bool {
	if text == "" || len(text) > api.EvalBase {
		return false
	}
	return !slices.ContainsFunc([]byte(text), func(c byte) bool { return c < 'a' || c > 'z' })
}

// exponent returns the exponent of a base, which may be none of the list.
func (l powers) exponent(base string) api.Rat {
	power, is := first(l, func(p api.Power) bool { return p.Base == base })
	if !is {
		return zero().Rat
	}
	return power.Exp
}

// first returns the first of a list that is looked for, unless there is none.
func first[T any](list []T, wanted func(T) bool) (found T, is bool) {
	for _, x := range list {
		if wanted(x) {
			return x, true
		}
	}
	return found, false
}

// text returns the text of the powers.
func (l powers) text() string {
	if len(l) == 0 {
		return nothing
	}
	var factors []string
	for _, p := range l {
		factors = append(factors, factorText(p))
	}
	return strings.Join(factors, between)
}

func factorText(p api.Power) string {
	if p.Exp == one().Rat {
		return p.Base
	}
	exponent, e := ratio.Print(p.Exp)
	stop.Pass(e)
	return p.Base + raised + exponent
}

func zero() exact.Ratio { return exact.Whole(exact.Of(0)) }

func one() exact.Ratio { return exact.Whole(exact.Of(1)) }
