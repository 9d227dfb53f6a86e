package unify_test

import (
	"slices"
	"sync"
	"testing"

	"metewand/api"
	"metewand/unify"
)

// arguments is what a call of any function of the package takes.
type arguments struct {
	n        int
	eqs      []api.UnifyEq
	others   []api.UnifyEq
	eq       api.UnifyEq
	dims     [][]api.Power
	variable int
}

// calls makes every call of the package, and returns all that comes back.
func calls(x arguments) []outcome {
	return []outcome{
		only(unify.Check(x.n, x.eqs)), truth(unify.Holds(x.n, x.eqs, x.dims)), answers(unify.Solve(x.n, x.eqs)), list(unify.Free(x.n, x.eqs)), solution(unify.Instance(x.n, x.eqs, x.dims)), list(unify.Clash(x.n, x.eqs)), exponents(unify.Proof(x.n, x.eqs)),
		truth(unify.Follows(x.n, x.eqs, x.eq)), exponents(unify.Derive(x.n, x.eqs, x.eq)), truth(unify.Same(x.n, x.eqs, x.others)), powers(unify.Only(x.n, x.eqs, x.variable)),
	}
}

// P1 and R3: whatever the arguments are, a function returns, an error is one of the chapter, and with it there is nothing else.
func TestAnyArguments(t *testing.T) {
	var all [][]api.UnifyEq
	for _, x := range invalid {
		all = append(all, x.eqs)
	}
	all = append(all, nil, eqs("1; m"), eqs("1;", "1; m"), systemU(), eqs("1 2;", "1/"+nearly+" "+nearly+"; m^"+nearly), eqs("1; \xff"), []api.UnifyEq{{Dim: []api.Power{{}}}}, fillEqs(eq("1;"), 1<<12), eqs(repeat("1 ", 1<<12)+";"), eqs(repeat("9", 1<<14)+";"))
	ns := []int{1, 2, 3, 0, 40, -1, 41, 1 << 62, -1 << 63}
	lists := [][][]api.Power{nil, dims("m"), dims("", "m", "s^1/2"), dims("M"), {{{}}}, dims("m^" + repeat("9", 1<<14))}
	for i, one := range all {
		for j, other := range all {
			x := arguments{ns[(i+j)%len(ns)], one, other, api.UnifyEq{}, lists[(i+3*j)%len(lists)], ns[(i+5*j)%len(ns)]}
			if len(other) > 0 {
				x.eq = other[0]
			}
			for k, got := range calls(x) {
				switch got.e {
				case api.OK:
					continue
				case api.ErrForm, api.ErrValue, api.ErrRange, api.ErrName, api.ErrOrder, api.ErrMany, api.ErrFew, api.ErrLarge, api.ErrNone, api.ErrClash:
				default:
					t.Errorf("call %d of %d, %s, %s: error %d", k, x.n, brief(shownEqs(one)), brief(shownEqs(other)), got.e)
				}
				if got.text != "" {
					t.Errorf("call %d of %d, %s, %s: error %d, but also %s", k, x.n, brief(shownEqs(one)), brief(shownEqs(other)), got.e, brief(got.text))
				}
			}
		}
	}
}

// arguments returns valid arguments.
func (s *source) arguments(t *testing.T) arguments {
	t.Helper()
	n := 1 + s.below(5)
	l := s.system(t, n, 8)
	return arguments{n, l, s.system(t, n, 8), s.equation(n), s.dimensions(n), s.below(n)}
}

// R2 and R6: a result depends on the arguments alone, whatever else is computed before, or at the same time.
func TestSideBySide(t *testing.T) {
	seed := source(2)
	var all []arguments
	var want [][]outcome
	for range 40 {
		x := seed.arguments(t)
		all = append(all, x)
		want = append(want, calls(x))
	}
	var group sync.WaitGroup
	for range 8 {
		group.Add(1)
		go func() {
			defer group.Done()
			for i, x := range all {
				if !slices.Equal(calls(x), want[i]) {
					t.Errorf("%s: not what it was before", shownEqs(x.eqs))
				}
			}
		}()
	}
	group.Wait()
}

// filled returns arguments whose lists have room behind them, which is no part of an argument.
func filled() (x arguments, whole func() string) {
	l := append(systemU(), eq("1 2 3; m s"))
	for at, e := range l {
		l[at] = api.UnifyEq{Exps: append(e.Exps, rat("7"))[:3], Dim: append(e.Dim, pw("z")...)[:len(e.Dim)]}
	}
	d := dims("m", "s", "m s", "kg")
	x = arguments{3, l[:3], l[:4], l[0], d[:3], 1}
	return x, func() string {
		text := shownDims(d)
		for _, e := range l {
			text += "; " + joined(e.Exps[:4]) + ", " + words(e.Dim[:len(e.Dim)+1])
		}
		return text
	}
}

// R4: arguments are not changed, nor what lies behind them.
func TestArgumentsStay(t *testing.T) {
	x, whole := filled()
	before := whole()
	calls(x)
	x.eqs = x.others
	calls(x)
	if whole() != before {
		t.Errorf("%s has become %s", before, whole())
	}
}

// spoil changes equations, and what lies behind them.
func spoil(l []api.UnifyEq) {
	for _, e := range l {
		for at := range e.Exps[:cap(e.Exps)] {
			e.Exps[:cap(e.Exps)][at] = api.Rat{}
		}
		for at := range e.Dim[:cap(e.Dim)] {
			e.Dim[:cap(e.Dim)][at] = api.Power{}
		}
	}
}

// R4: results share no memory with arguments, nor with other results.
func TestMemory(t *testing.T) {
	x, whole := filled()
	before, first := whole(), calls(x)
	for _, l := range [][]api.UnifyEq{nil, x.eqs, systemS()} {
		solved := must[[]api.UnifyEq](t, "Solve")(unify.Solve(3, l))
		rest := shownEqs(solved[1:])
		spoil(solved[:1])
		if shownEqs(solved[1:]) != rest {
			t.Errorf("an answer shares memory with another one: %s", shownEqs(solved))
		}
	}
	for _, l := range [][][]api.Power{
		must[[][]api.Power](t, "Instance")(unify.Instance(3, nil, x.dims)), must[[][]api.Power](t, "Instance")(unify.Instance(3, x.eqs, nil)), must[[][]api.Power](t, "Instance")(unify.Instance(3, eqs("1 -1 0;", "1 0 -1;"), x.dims[:1])), {must[[]api.Power](t, "Only")(unify.Only(3, x.eqs, 0))},
	} {
		rest := shownDims(l[1:])
		spoil([]api.UnifyEq{{Dim: l[0]}})
		if shownDims(l[1:]) != rest {
			t.Errorf("a dimension shares memory with another one: %s", shownDims(l))
		}
	}
	spoil([]api.UnifyEq{{Exps: must[[]api.Rat](t, "Derive")(unify.Derive(3, x.eqs, x.eq))}, {Exps: must[[]api.Rat](t, "Proof")(unify.Proof(3, x.others))}})
	if whole() != before || !slices.Equal(calls(x), first) {
		t.Errorf("%s has become %s", before, whole())
	}
}

// R4: a nil list is an empty one.
func TestEmptyLists(t *testing.T) {
	empty := arguments{0, []api.UnifyEq{}, []api.UnifyEq{}, api.UnifyEq{Exps: []api.Rat{}, Dim: []api.Power{}}, [][]api.Power{}, 0}
	if got, want := calls(empty), calls(arguments{}); !slices.Equal(got, want) {
		t.Errorf("got %v, want %v", got, want)
	}
	expect(t, "Solve with an empty dimension", answers(unify.Solve(1, []api.UnifyEq{{Exps: rats("1"), Dim: []api.Power{}}})), fine("0;"))
	expect(t, "Holds with an empty dimension", truth(unify.Holds(2, eqs("1 1;"), [][]api.Power{{}, nil})), fine("true"))
}
