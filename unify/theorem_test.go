package unify_test

import (
	"slices"
	"testing"

	"metewand/api"
	"metewand/dim"
	"metewand/ratio"
	"metewand/unify"
)

const rounds = 300

// each tries systems by chance: those with solutions, and those without.
func each(t *testing.T, seed source, most int, solvable, clash func(s *source, n int, l []api.UnifyEq)) {
	t.Helper()
	s := &seed
	var with, without int
	for range rounds {
		n := s.below(5)
		l := s.system(t, n, most)
		if contradict(t, n, l) {
			without++
			clash(s, n, l)
		} else {
			with++
			solvable(s, n, l)
		}
	}
	if with < rounds/5 || without < rounds/5 {
		t.Errorf("only %d systems with solutions, and %d without", with, without)
	}
}

func nothing(*source, int, []api.UnifyEq) {}

// chosen returns the dimensions of the free variables.
func chosen(t *testing.T, n int, l []api.UnifyEq, dims [][]api.Power) [][]api.Power {
	t.Helper()
	var out [][]api.Power
	for _, variable := range must[[]int](t, "Free")(unify.Free(n, l)) {
		out = append(out, dims[variable])
	}
	return out
}

// P5.8; the free variables have what they are given, and the others are what their answers say.
func TestSolution(t *testing.T) {
	each(t, 8, 6, func(s *source, n int, l []api.UnifyEq) {
		free := must[[]int](t, "Free")(unify.Free(n, l))
		given := s.dimensions(len(free))
		dims := must[[][]api.Power](t, "Instance")(unify.Instance(n, l, given))
		expect(t, "Holds("+shownEqs(l)+"; "+shownDims(dims)+")", truth(unify.Holds(n, l, dims)), fine("true"))
		expect(t, "the free ones of "+shownEqs(l), solution(chosen(t, n, l, dims), api.OK), solution(given, api.OK))
		for variable, a := range must[[]api.UnifyEq](t, "Solve")(unify.Solve(n, l)) {
			product := must[[]api.Power](t, "Product")(dim.Product(append(dims[:n:n], a.Dim), append(a.Exps[:n:n], rat("1"))))
			expect(t, "an answer of "+shownEqs(l), powers(product, api.OK), powers(dims[variable], api.OK))
			for at, exp := range a.Exps {
				is := slices.Contains(free, at)
				if !is && shown(exp) != "0" || is && at == variable && shown(exp) != "1" {
					t.Errorf("Solve(%s): the answer of %d is %s", shownEqs(l), variable, shownEqs([]api.UnifyEq{a}))
				}
			}
		}
		if len(dims) > 0 {
			dims[s.below(n)] = s.dimension(2)
			if is := must[bool](t, "Holds")(unify.Holds(n, l, dims)); is {
				expect(t, "Instance of a solution of "+shownEqs(l), solution(unify.Instance(n, l, chosen(t, n, l, dims))), solution(dims, api.OK))
			}
		}
	}, nothing)
}

// A variable is free unless a product of powers of the equations has it, and no variable before it: the rank of the first columns grows with all others.
func TestFree(t *testing.T) {
	each(t, 7, 6, func(s *source, n int, l []api.UnifyEq) {
		var want []int
		for variable := range n {
			if rank(t, l, variable+1) == rank(t, l, variable) {
				want = append(want, variable)
			}
		}
		expect(t, "Free("+shownEqs(l)+")", list(unify.Free(n, l)), list(want, api.OK))
	}, nothing)
}

// rank returns how many columns are independent among the first ones of equations, as dimensions whose bases are the equations.
func rank(t *testing.T, l []api.UnifyEq, columns int) int {
	t.Helper()
	var dims [][]api.Power
	for variable := range columns {
		var d []api.Power
		for at, e := range l {
			if exp := e.Exps[variable]; exp.Num != "0" {
				d = append(d, api.Power{Base: string(rune('a' + at)), Exp: exp})
			}
		}
		dims = append(dims, d)
	}
	return must[int](t, "Rank")(dim.Rank(dims))
}

// P5.9, P5.4: a clash is the least of the shortest lists, and the proof shows it.
func TestContradiction(t *testing.T) {
	lengths := map[int]int{}
	each(t, 9, 7, func(s *source, n int, l []api.UnifyEq) {
		expect(t, "Clash("+shownEqs(l)+")", list(unify.Clash(n, l)), none(api.ErrNone))
		expect(t, "Proof("+shownEqs(l)+")", exponents(unify.Proof(n, l)), none(api.ErrNone))
	}, func(s *source, n int, l []api.UnifyEq) {
		clash := must[[]int](t, "Clash")(unify.Clash(n, l))
		lengths[len(clash)]++
		expect(t, "Clash("+shownEqs(l)+")", list(clash, api.OK), list(shortest(t, n, l), api.OK))
		for at := range clash {
			rest := append(clash[:at:at], clash[at+1:]...)
			if contradict(t, n, part(l, rest)) {
				t.Errorf("Clash(%s): %v can do without %d", shownEqs(l), clash, clash[at])
			}
		}
		proves(t, n, l, clash)
	})
	if lengths[1] == 0 || lengths[2] == 0 || lengths[3] == 0 || lengths[4] == 0 {
		t.Errorf("only %v", lengths)
	}
}

// proves checks the proof of a clash.
func proves(t *testing.T, n int, l []api.UnifyEq, clash []int) {
	t.Helper()
	proof := must[[]api.Rat](t, "Proof")(unify.Proof(n, l))
	if len(proof) != len(l) || len(clash) == 0 || shown(proof[clash[0]]) != "1" {
		t.Fatalf("Proof(%s): %s", shownEqs(l), joined(proof))
	}
	for at, exp := range proof {
		if slices.Contains(clash, at) == (exp.Num == "0") {
			t.Errorf("Proof(%s): %s, but the clash is %v", shownEqs(l), joined(proof), clash)
		}
	}
	shows := product(t, n, l, proof)
	if joined(shows.Exps) != blank(n) || len(shows.Dim) == 0 {
		t.Errorf("Proof(%s): %s shows %s", shownEqs(l), joined(proof), shownEqs([]api.UnifyEq{shows}))
	}
}

// Longer lists, of fewer variables, with many clashes of one length; and with exponents of any length.
func TestShortest(t *testing.T) {
	s := source(3)
	for round := range 50 {
		n := 2 + s.below(4)
		var l []api.UnifyEq
		dims := s.dimensions(n)
		for range 9 {
			e := api.UnifyEq{Exps: rats(blank(n))}
			for at := range n {
				e.Exps[at] = s.number(1 + s.below(2))
				if round%10 == 0 && s.below(3) == 0 {
					e.Exps[at] = s.long(30)
				}
			}
			e = solved(t, e, dims)
			if s.below(4) == 0 {
				e.Dim = s.dimension(2)
			}
			l = append(l, e)
		}
		want := shortest(t, n, l)
		if want == nil {
			continue
		}
		expect(t, "Clash("+shownEqs(l)+")", list(unify.Clash(n, l)), list(want, api.OK))
		if round%10 > 0 {
			proves(t, n, l, want)
		}
	}
}

// Lists that are too long to look at each part of them with the functions themselves: all parts of a length in order, with machine numbers.
func TestShortestOfMany(t *testing.T) {
	s := source(5)
	lengths := map[int]int{}
	for round := range 200 {
		n := 3 + s.below(5)
		l := s.dense(t, n, 12+s.below(4), 1+round%3, 1+s.below(8))
		if round%4 == 0 {
			n = 3 + s.below(3)
			l = s.dense(t, n, 20+s.below(10), 1+s.below(2), 1+s.below(20))
		}
		rows := table(n, l)
		var want []int
		for size := 1; want == nil && size <= n+1; size++ {
			want = first(n, rows, nil, size)
		}
		lengths[len(want)]++
		if want == nil {
			expect(t, "Clash("+shownEqs(l)+")", list(unify.Clash(n, l)), none(api.ErrNone))
			continue
		}
		expect(t, "Clash("+shownEqs(l)+")", list(unify.Clash(n, l)), list(want, api.OK))
		if round%4 > 0 {
			l = s.stretched(t, l, []int{5, 9, 9, 30}[s.below(4)])
			expect(t, "Clash("+shownEqs(l)+")", list(unify.Clash(n, l)), list(want, api.OK))
		}
	}
	if len(lengths) < 6 {
		t.Errorf("only %v", lengths)
	}
}

// P5.10, P5.5
func TestFollows(t *testing.T) {
	each(t, 10, 6, func(s *source, n int, l []api.UnifyEq) {
		e := s.equation(n)
		if s.below(2) == 0 {
			e = product(t, n, l, s.powers(l))
			expect(t, "Follows("+shownEqs(l)+"; a product)", truth(unify.Follows(n, l, e)), fine("true"))
		}
		more := append(l[:len(l):len(l)], e)
		is := must[bool](t, "Follows")(unify.Follows(n, l, e))
		expect(t, "Follows("+shownEqs(more)+")", truth(unify.Same(n, l, more)), truth(is, api.OK))
		derived, f := unify.Derive(n, l, e)
		if !is {
			expect(t, "Derive("+shownEqs(more)+")", exponents(derived, f), none(api.ErrNone))
			return
		}
		shows := product(t, n, l, must[[]api.Rat](t, "Derive")(derived, f))
		expect(t, "Derive("+shownEqs(more)+")", answers([]api.UnifyEq{shows}, api.OK), answers([]api.UnifyEq{e}, api.OK))
		for at := range l {
			if earlier := must[bool](t, "Follows")(unify.Follows(n, l[:at], l[at])); earlier && shown(derived[at]) != "0" {
				t.Errorf("Derive(%s): %s, but %d follows from those before it", shownEqs(more), joined(derived), at)
			}
		}
	}, func(s *source, n int, l []api.UnifyEq) {
		e := s.equation(n)
		expect(t, "Follows of a clash", truth(unify.Follows(n, l, e)), fine("true"))
		expect(t, "Same of clashes", truth(unify.Same(n, l, append(l[:len(l):len(l)], e))), fine("true"))
		expect(t, "Derive of a clash", exponents(unify.Derive(n, l, e)), none(api.ErrClash))
	})
}

// P5.11
func TestOrder(t *testing.T) {
	check := func(s *source, n int, l []api.UnifyEq) {
		other := shuffled(s, l)
		for at, e := range other {
			other[at] = raised(t, e, s.some(4))
		}
		expect(t, "Same("+shownEqs(l)+"; "+shownEqs(other)+")", truth(unify.Same(n, l, other)), fine("true"))
		expect(t, "Solve("+shownEqs(other)+")", answers(unify.Solve(n, other)), answers(unify.Solve(n, l)))
		expect(t, "Free("+shownEqs(other)+")", list(unify.Free(n, other)), list(unify.Free(n, l)))
		one, e := unify.Clash(n, l)
		two, f := unify.Clash(n, other)
		if len(one) != len(two) || e != f {
			t.Errorf("Clash(%s): %v, error %d; Clash(%s): %v, error %d", shownEqs(l), one, e, shownEqs(other), two, f)
		}
	}
	each(t, 11, 6, check, check)
}

// P5.12
func TestMore(t *testing.T) {
	each(t, 12, 6, func(s *source, n int, l []api.UnifyEq) {
		e := s.equation(n)
		more := append(l[:len(l):len(l)], e)
		before := must[[]int](t, "Free")(unify.Free(n, l))
		after, f := unify.Free(n, more)
		if f == api.ErrClash {
			return
		}
		if f != api.OK || len(after) > len(before) || len(after) < len(before)-1 {
			t.Fatalf("Free(%s): %v, and with one more equation %v, error %d", shownEqs(l), before, after, f)
		}
		dims := must[[][]api.Power](t, "Instance")(unify.Instance(n, more, s.dimensions(len(after))))
		expect(t, "Holds("+shownEqs(l)+")", truth(unify.Holds(n, l, dims)), fine("true"))
	}, func(s *source, n int, l []api.UnifyEq) {
		expect(t, "Free of a clash", list(unify.Free(n, append(l[:len(l):len(l)], s.equation(n)))), none(api.ErrClash))
	})
}

// P5.13, P5.7
func TestOnlyOne(t *testing.T) {
	each(t, 13, 6, func(s *source, n int, l []api.UnifyEq) {
		free := must[[]int](t, "Free")(unify.Free(n, l))
		one := must[[][]api.Power](t, "Instance")(unify.Instance(n, l, make([][]api.Power, len(free))))
		var differ []bool
		for variable := range n {
			differ = append(differ, false)
			for at := range free {
				dims := make([][]api.Power, len(free))
				dims[at] = pw("mol")
				other := must[[][]api.Power](t, "Instance")(unify.Instance(n, l, dims))
				differ[variable] = differ[variable] || words(other[variable]) != words(one[variable])
			}
			want := powers(one[variable], api.OK)
			if differ[variable] {
				want = none(api.ErrNone)
			}
			expect(t, "Only("+shownEqs(l)+")", powers(unify.Only(n, l, variable)), want)
		}
	}, func(s *source, n int, l []api.UnifyEq) {
		if n > 0 {
			expect(t, "Only of a clash", powers(unify.Only(n, l, s.below(n))), none(api.ErrClash))
		}
	})
}

// P5.14
func TestBase(t *testing.T) {
	check := func(s *source, n int, l []api.UnifyEq) {
		stand := []api.DimBase{}
		for _, base := range bases {
			stand = append(stand, api.DimBase{Base: base, Dim: []api.Power{{Base: base + "x", Exp: s.some(3)}}})
		}
		rebased := func(l []api.UnifyEq) []api.UnifyEq {
			var out []api.UnifyEq
			for _, e := range l {
				out = append(out, api.UnifyEq{Exps: e.Exps, Dim: must[[]api.Power](t, "Rebase")(dim.Rebase(e.Dim, stand))})
			}
			return out
		}
		solved, e := unify.Solve(n, l)
		expect(t, "Solve("+shownEqs(l)+") with other bases", answers(unify.Solve(n, rebased(l))), answers(rebased(solved), e))
		expect(t, "Clash("+shownEqs(l)+") with other bases", list(unify.Clash(n, rebased(l))), list(unify.Clash(n, l)))
		expect(t, "Proof("+shownEqs(l)+") with other bases", exponents(unify.Proof(n, rebased(l))), exponents(unify.Proof(n, l)))
	}
	each(t, 14, 6, check, check)
}

// Equations with long exponents have long answers, which hold.
func TestLong(t *testing.T) {
	s := source(4)
	for range 20 {
		var l []api.UnifyEq
		for range 3 {
			e := api.UnifyEq{Exps: []api.Rat{s.long(20), s.long(10), s.long(15), s.number(3)}, Dim: s.dimension(3)}
			l = append(l, e)
		}
		expect(t, "Free of long ones", list(unify.Free(4, l)), fine("3"))
		dims := must[[][]api.Power](t, "Instance")(unify.Instance(4, l, dims("m")))
		expect(t, "Holds of long ones", truth(unify.Holds(4, l, dims)), fine("true"))
		power := s.long(12)
		e := product(t, 4, l, []api.Rat{power, rat("-1/3"), rat("0")})
		expect(t, "Derive of long ones", exponents(unify.Derive(4, l, e)), fine(shown(power)+" -1/3 0"))
		last := e.Exps[3]
		e.Exps[3] = must[api.Rat](t, "Add")(ratio.Add(last, rat("1/"+ten(200))))
		expect(t, "Follows nearly", truth(unify.Follows(4, l, e)), fine("false"))
		expect(t, "Clash of long ones", list(unify.Clash(4, append(l, product(t, 4, l, rats("1 1 1")), eq(joined(product(t, 4, l, rats("1 2 3")).Exps)+"; m^99")))), fine("0 1 2 4"))
	}
}
