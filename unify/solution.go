package unify

import (
	"errors"

	"metewand/api"
	"metewand/exact"
	"metewand/stop"
)

// A solution is what equations say of the variables: each equation that is kept leads with another variable, whose exponent is 1, and has none of the variables with which earlier ones lead.
type solution struct {
	system
	leading map[int]*equation // by the variables they lead with
}

// A contradiction is thrown where a product of equations has no variables, but a dimension.
type contradiction struct{ made row[exact.Ratio] }

func (c contradiction) Error() string { return "the equations contradict each other" }

// solve returns the solution, or the contradiction that shows that there is none.
func (s system) solve() (found *solution, err error) {
	defer func() {
		if thrown := recover(); thrown != nil {
			var c contradiction
			if e, is := thrown.(error); !is || !errors.As(e, &c) {
				panic(thrown)
			}
			found, err = nil, c
		}
	}()
	found = &solution{s, map[int]*equation{}}
	for at, e := range s.equations(len(s.eqs)) {
		e.made.cells[at] = one()
		if !found.learn(e) && !e.nothing() {
			panic(contradiction{e.made})
		}
	}
	return found, nil
}

// learn keeps what an equation says beyond those before it, unless this is nothing about variables.
func (s *solution) learn(e *equation) bool {
	s.reduce(e)
	variable, is := e.first()
	if is {
		e.raise(e.cells[variable].Inverse())
		s.leading[variable] = e
	}
	return is
}

// reduce takes powers of the equations that lead from another one, until it has none of the variables that they lead with.
func (s *solution) reduce(e *equation) {
	for variable := range s.variables {
		if leader, is := s.leading[variable]; is && e.cells[variable].Sign() != 0 {
			e.lessen(leader, e.cells[variable])
		}
	}
}

// A question is what is asked of a system: of its solution, and, if there is none, without it.
type question[T any] struct {
	solved func(*solution) T
	clash  func() T // without this, there has to be a solution (ErrClash)
}

// of returns the answer of a system.
func (q question[T]) of(s system) T {
	found, err := s.solve()
	if err == nil {
		return q.solved(found)
	}
	stop.Demand(q.clash != nil, api.ErrClash)
	return q.clash()
}

// always is the answer of whoever contradicts himself.
func always() bool { return true }

// contradicts returns whether the system has no solution.
func (s system) contradicts() bool {
	_, err := s.solve()
	return err != nil
}

// nothing returns whether an equation says nothing.
func (e *equation) nothing() bool {
	_, variable := e.first()
	return !variable && len(e.dim) == 0
}

// follows returns whether all equations of the system follow from a solution.
func (s system) follows(from *solution) bool {
	follow := true
asking:
	for _, e := range s.equations(len(from.eqs)) {
		from.reduce(e)
		if !e.nothing() {
			follow = false
			break asking
		}
	}
	return follow
}

// derivation returns exponents of a solution's equations with which their product is the system's equation.
func (s system) derivation(from *solution) []api.Rat {
	e := atWork(s.eqs[0], len(from.eqs))
	from.reduce(e)
	stop.Demand(e.nothing(), api.ErrNone)
	e.made.scale(one().Negative())
	return results(e.made.cells)
}

// free returns the free variables.
func (s *solution) free() []int {
	var list []int
	for variable := range s.variables {
		if _, is := s.leading[variable]; !is {
			list = append(list, variable)
		}
	}
	return list
}

// An answer is what a variable is by the free ones.
type answer struct {
	exps []exact.Ratio
	dim  exact.Exponents
}

// answers returns the answers of all variables. Those that lead are looked at from the last one on, as equations have later variables only.
func (s *solution) answers() []answer {
	list := make([]answer, s.variables)
	for variable := s.variables - 1; variable >= 0; variable-- {
		list[variable] = s.answer(variable, list)
	}
	return list
}

// answer returns the answer of a variable by those of later ones.
func (s *solution) answer(variable int, later []answer) answer {
	own := row[exact.Ratio]{make([]exact.Ratio, s.variables)}
	for at := range own.cells {
		own.cells[at] = zero()
	}
	dim := exact.Exponents{}
	leader, is := s.leading[variable]
	if !is {
		own.cells[variable] = one()
		return answer{own.cells, dim}
	}
	dim.Multiply(leader.dim.Powers(), one().Negative())
	for at := variable + 1; at < s.variables; at++ {
		if power := leader.cells[at]; power.Sign() != 0 {
			own.take(row[exact.Ratio]{later[at].exps}, power)
			dim.Multiply(later[at].dim.Powers(), power.Negative())
		}
	}
	return answer{own.cells, dim}
}

// results returns the answers, unless a number is too large.
func (s *solution) results() []api.UnifyEq {
	var list []api.UnifyEq
	for _, a := range s.answers() {
		list = append(list, api.UnifyEq{Exps: results(a.exps), Dim: a.dim.Result()})
	}
	return list
}

// A choice is dimensions for the free variables.
type choice [][]api.Power

// instance returns the dimensions of all variables with those that are chosen.
func (c choice) instance(s *solution) [][]api.Power {
	free := s.free()
	asMany(c, len(free))
	var list [][]api.Power
	for _, a := range s.answers() {
		d := a.dim
		for at, variable := range free {
			d.Multiply(c[at], a.exps[variable])
		}
		list = append(list, d.Result())
	}
	return list
}

// A place is the number of a variable.
type place int

// only returns the dimension of the variable, if it is the same in all solutions.
func (p place) only(s *solution) []api.Power {
	a := s.answers()[p]
	for _, exp := range a.exps {
		stop.Demand(exp.Sign() == 0, api.ErrNone)
	}
	return a.dim.Result()
}

// results returns numbers, unless one is too large.
func results(numbers []exact.Ratio) []api.Rat {
	var out []api.Rat
	for _, n := range numbers {
		out = append(out, n.Result())
	}
	return out
}
