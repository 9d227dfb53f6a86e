package unify

import (
	"iter"
	"slices"

	"metewand/api"
	"metewand/dim"
	"metewand/exact"
	"metewand/ratio"
	"metewand/stop"
)

// A system is equations that are known to be valid.
type system struct {
	variables int
	eqs       []api.UnifyEq
}

// given returns the system that is given, which has to be valid.
func given(n int, eqs []api.UnifyEq) system {
	stop.Demand(n >= 0 && n <= api.UnifyVars, api.ErrValue)
	stop.Demand(len(eqs) <= api.UnifyEqs, api.ErrMany)
	for _, eq := range eqs {
		asMany(eq.Exps, n)
		for _, exp := range eq.Exps {
			stop.Pass(ratio.Check(exp))
		}
		stop.Pass(dim.Check(eq.Dim))
	}
	return system{n, eqs}
}

// asMany demands that a list has n elements.
func asMany[T any](list []T, n int) {
	stop.Demand(len(list) >= n, api.ErrFew)
	stop.Demand(len(list) <= n, api.ErrMany)
}

// dimensions returns dimensions that are given, which have to be valid.
func dimensions(list [][]api.Power) [][]api.Power {
	for _, d := range list {
		stop.Pass(dim.Check(d))
	}
	return list
}

// holds returns whether all equations hold with a dimension of each variable.
func (s system) holds(dims [][]api.Power) bool {
	for _, eq := range s.eqs {
		left := exact.Exponents{}
		left.Multiply(eq.Dim, one())
		for at, exp := range eq.Exps {
			left.Multiply(dims[at], exact.Ratio{Rat: exp})
		}
		if len(left) > 0 {
			return false
		}
	}
	return true
}

// part returns the system of some of the equations.
func (s system) part(numbers ...int) system {
	var eqs []api.UnifyEq
	for _, at := range numbers {
		eqs = append(eqs, s.eqs[at])
	}
	return system{s.variables, eqs}
}

// An equation is one at work. What is given is kept; what is left of it after others were taken from it can have exponents of any length.
type equation struct {
	api.UnifyEq
	row[exact.Ratio]                  // the exponents of the variables
	dim              exact.Exponents  // the dimension
	made             row[exact.Ratio] // the exponents of the equations that make it
}

// equations goes through the equations with their numbers, each as one at work that has room for what makes it.
func (s system) equations(room int) iter.Seq2[int, *equation] {
	return func(yield func(int, *equation) bool) {
		for at, eq := range s.eqs {
			if !yield(at, atWork(eq, room)) {
				return
			}
		}
	}
}

// atWork returns an equation at work, of which is not said what makes it.
func atWork(eq api.UnifyEq, room int) *equation {
	e := &equation{UnifyEq: eq, dim: exact.Exponents{}}
	for _, exp := range eq.Exps {
		e.cells = append(e.cells, exact.Ratio{Rat: exp})
	}
	e.made.cells = slices.Repeat([]exact.Ratio{zero()}, room)
	e.dim.Multiply(eq.Dim, one())
	return e
}

// lessen takes a power of another equation from this one.
func (e *equation) lessen(other *equation, power exact.Ratio) {
	e.take(other.row, power)
	e.made.take(other.made, power)
	e.dim.Multiply(other.dim.Powers(), power.Negative())
}

// raise raises an equation to a power that is not 0.
func (e *equation) raise(power exact.Ratio) {
	e.scale(power)
	e.made.scale(power)
	raised := exact.Exponents{}
	raised.Multiply(e.dim.Powers(), power)
	e.dim = raised
}

func zero() exact.Ratio { return exact.Whole(exact.Of(0)) }

func one() exact.Ratio { return exact.Whole(exact.Of(1)) }
