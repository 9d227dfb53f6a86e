package unify

import (
	"errors"
	"maps"
	"slices"

	"metewand/api"
	"metewand/exact"
	"metewand/stop"
)

// clash returns the fewest equations that contradict each other.
func (s system) clash() []int {
	s.contradiction()
	numbers := s.distinct()
	whole, norms := s.part(numbers...).whole()
	found := whole.products().fewest(norms)
	var list []int
	for at := range found.each() {
		list = append(list, numbers[at])
	}
	return list
}

// contradiction returns one that there is.
func (s system) contradiction() contradiction {
	var c contradiction
	_, err := s.solve()
	stop.Demand(errors.As(err, &c), api.ErrNone)
	return c
}

// proof returns exponents of the equations with which their product has no variables, but a dimension. Those of equations that do not contradict each other without any one of them can only be multiplied by a number.
func (s system) proof(clash []int) []exact.Ratio {
	made := s.part(clash...).contradiction().made
	made.scale(made.cells[0].Inverse())
	exps := slices.Repeat([]exact.Ratio{zero()}, len(s.eqs))
	for at, number := range clash {
		exps[number] = made.cells[at]
	}
	return exps
}

// distinct returns the numbers of equations that are no power of an earlier one. The earlier one can stand in the place of the other in a list, which gets no longer, and less.
func (s system) distinct() []int {
	var kept []*equation
	var numbers []int
looking:
	for at, e := range s.equations(0) {
		if variable, is := e.first(); is {
			e.raise(e.cells[variable].Inverse())
		}
		for _, earlier := range kept {
			if slices.Equal(e.cells, earlier.cells) && maps.Equal(e.dim, earlier.dim) {
				continue looking
			}
		}
		kept = append(kept, e)
		numbers = append(numbers, at)
	}
	return numbers
}

// whole returns the system with each equation raised to a power with which all exponents are whole, and the sum of the squares of these for each equation.
func (s system) whole() (system, []exact.Int) {
	raised := system{variables: s.variables}
	var norms []exact.Int
	for _, e := range s.equations(0) {
		powers := e.dim.Powers()
		exps := e.cells
		for _, p := range powers {
			exps = append(exps, exact.Ratio{Rat: p.Exp})
		}
		norm := exact.Of(0)
		var eq api.UnifyEq
		for at, exp := range wholes(exps) {
			norm = norm.Plus(exp.Times(exp))
			if at < s.variables {
				eq.Exps = append(eq.Exps, exact.Whole(exp).Rat)
			} else {
				eq.Dim = append(eq.Dim, api.Power{Base: powers[at-s.variables].Base, Exp: exact.Whole(exp).Rat})
			}
		}
		raised.eqs = append(raised.eqs, eq)
		norms = append(norms, norm)
	}
	return raised, norms
}

// wholes returns numbers times the least number with which all are whole.
func wholes(numbers []exact.Ratio) []exact.Int {
	common := exact.Of(1)
	for _, n := range numbers {
		_, under := n.Parts()
		missing, _ := under.Quo(under.Divisor(common))
		common = common.Times(missing)
	}
	var whole []exact.Int
	for _, n := range numbers {
		over, under := n.Parts()
		factor, _ := common.Quo(under)
		whole = append(whole, over.Times(factor))
	}
	return whole
}

// The products are those of equations in which no variables are left: all such products are made of them. Each has an equation that none before it has.
type products struct {
	equations int
	rank      int // of the equations' exponents of variables
	own       []int
	list      []*equation
}

// products returns the products in which no variables are left.
func (s system) products() products {
	found := &solution{s, map[int]*equation{}}
	p := products{equations: len(s.eqs)}
	for at, e := range s.equations(len(s.eqs)) {
		e.made.cells[at] = one()
		if !found.learn(e) {
			p.own = append(p.own, at)
			p.list = append(p.list, e)
		}
	}
	p.rank = len(found.leading)
	return p
}

// bases returns bases whose exponents in the products say all about them: those of other bases are sums of multiples.
func (p products) bases() []string {
	all := map[string]bool{}
	for _, e := range p.list {
		for base := range e.dim {
			all[base] = true
		}
	}
	names := slices.Sorted(maps.Keys(all))
	columns := system{variables: len(p.list)}
	for _, base := range names {
		var exps []api.Rat
		for _, e := range p.list {
			exps = append(exps, e.exponent(base).Rat)
		}
		columns.eqs = append(columns.eqs, api.UnifyEq{Exps: exps})
	}
	found := &solution{columns, map[int]*equation{}}
	var needed []string
	for at, e := range columns.equations(0) {
		if found.learn(e) {
			needed = append(needed, names[at])
		}
	}
	return needed
}

// exponent returns the exponent of a base in the dimension.
func (e *equation) exponent(base string) exact.Ratio {
	if exp, is := e.dim[base]; is {
		return exp
	}
	return zero()
}

// fewest returns the fewest equations that contradict each other. The numbers that are compared with 0 are quotients of determinants of the equations' numbers, which are no greater than the product of the greatest norms. (There are more equations than the rank that are not empty, as they contradict each other.) If a prime is greater, it divides none of them but 0, so that a residue is 0 just if the number is.
func (p products) fewest(norms []exact.Int) set {
	norms = slices.SortedFunc(slices.Values(norms), exact.Int.Compare)
	square := exact.Of(1)
	for _, norm := range norms[max(0, len(norms)-p.rank-1):] {
		square = square.Times(norm)
	}
	switch {
	case square.Compare(exact.Of(shortPrime).Power(2)) < 0:
		return tableOf(p, shortOf, keep).fewest()
	case square.Compare(prime().Power(2)) < 0:
		return tableOf(p, residueOf, keep).fewest()
	}
	return tableOf(p, exact.Whole, shorten).fewest()
}

// keep leaves a word as it is: residues do not grow.
func keep[N number[N]](*word[N]) {}

// shorten makes the exponent of a word's own equation 1, so that its numbers are no longer than determinants.
func shorten(w *word[exact.Ratio]) { w.scale(w.cells[w.own].Inverse()) }
