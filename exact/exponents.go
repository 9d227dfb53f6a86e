package exact

import (
	"maps"
	"slices"

	"metewand/api"
)

// Exponents is a product of powers at work: the exponents of its bases, none of them 0, and of any length.
type Exponents map[string]Ratio

// Raise multiplies by a power of a base.
func (e Exponents) Raise(base string, n Ratio) {
	switch before, is := e[base]; {
	case is:
		n = before.Plus(n)
		fallthrough
	default:
		e[base] = n
	}
	if n.Sign() == 0 {
		delete(e, base)
	}
}

// Multiply multiplies by the power n of a product.
func (e Exponents) Multiply(product []api.Power, n Ratio) {
	for _, p := range product {
		e.Raise(p.Base, Ratio{p.Exp}.Times(n))
	}
}

// Powers returns the powers, their bases in the order of bytes.
func (e Exponents) Powers() []api.Power {
	var list []api.Power
	for _, base := range slices.Sorted(maps.Keys(e)) {
		list = append(list, api.Power{Base: base, Exp: e[base].Rat})
	}
	return list
}

// Result returns the powers, unless an exponent is too long for a result.
func (e Exponents) Result() []api.Power {
	list := e.Powers()
	for at, p := range list {
		list[at].Exp = Ratio{p.Exp}.Result()
	}
	return list
}
