package unify_test

import (
	"strings"
	"testing"

	"metewand/api"
	"metewand/unify"
)

// The systems of the chapter's examples.
func systemS() []api.UnifyEq { return eqs("1 -1 0; m^-1", "0 1 -2;") }

func systemT() []api.UnifyEq { return append(systemS(), eq("1 0 0; s^-1")) }

func systemU() []api.UnifyEq { return append(systemT(), eq("0 0 1; kg^-1")) }

// The examples of the chapter, in its order.
func TestExamples(t *testing.T) {
	S, T, U := systemS(), systemT(), systemU()
	for _, x := range []struct {
		call string
		got  outcome
		want outcome
	}{
		{"Solve(S)", answers(unify.Solve(3, S)), fine("0 0 2; m | 0 0 2; | 0 0 1;")},
		{"Free(S)", list(unify.Free(3, S)), fine("2")},
		{"Free(T)", list(unify.Free(3, T)), fine("")},
		{"Instance(S; s)", solution(unify.Instance(3, S, dims("s"))), fine("m s^2, s^2, s")},
		{"Instance(T)", solution(unify.Instance(3, T, nil)), fine("s, m^-1 s, m^-1/2 s^1/2")},
		{"Solve(U)", answers(unify.Solve(3, U)), none(api.ErrClash)},
		{"Clash(U)", list(unify.Clash(3, U)), fine("0 1 2 3")},
		{"Proof(U)", exponents(unify.Proof(3, U)), fine("1 1 -1 2")},
		{"Follows(S; a^2 c^-4 m^-2)", follows(3, S, "2 0 -4; m^-2"), fine("true")},
		{"Follows(S; a)", follows(3, S, "1 0 0;"), fine("false")},
		{"Derive(S; a^2 c^-4 m^-2)", exponents(unify.Derive(3, S, eq("2 0 -4; m^-2"))), fine("2 2")},
		{"Only(T; 2)", powers(unify.Only(3, T, 2)), fine("m^-1/2 s^1/2")},
		{"Only(S; 0)", powers(unify.Only(3, S, 0)), none(api.ErrNone)},
		{"Only(S; 3)", powers(unify.Only(3, S, 3)), none(api.ErrRange)},
		{"Same(S; b^-1 c^2 and a c^-2 m^-1)", truth(unify.Same(3, S, eqs("0 -1 2;", "1 0 -2; m^-1"))), fine("true")},
		{"Same(S, T)", truth(unify.Same(3, S, T)), fine("false")},
		{"Holds(S; m, none, none)", truth(unify.Holds(3, S, dims("m", "", ""))), fine("true")},
		{"Holds(S; m, s, none)", truth(unify.Holds(3, S, dims("m", "s", ""))), fine("false")},
		{"Check(1; an equation of two)", only(unify.Check(1, eqs("1 1;"))), none(api.ErrMany)},
		{"Check of 41 variables", only(unify.Check(41, nil)), none(api.ErrValue)},
	} {
		expect(t, x.call, x.got, x.want)
	}
}

// large is the least whole number that is too large, and nearly a tenth of it; the square of half is too large.
var large, nearly, half = ten(400), ten(399), ten(250)

// invalid is systems that are not valid, with their errors.
var invalid = []struct {
	n   int
	eqs []api.UnifyEq
	e   api.Errno
}{
	{-1, nil, api.ErrValue}, {41, nil, api.ErrValue}, {1 << 60, nil, api.ErrValue}, {-1 << 60, nil, api.ErrValue}, {-1, fillEqs(eq("1;"), 41), api.ErrValue}, {41, eqs("1; M"), api.ErrValue},
	{0, fillEqs(eq(";"), 41), api.ErrMany}, {2, fillEqs(eq("1; M"), 41), api.ErrMany},
	{1, eqs(";"), api.ErrFew}, {2, eqs("2/4; M"), api.ErrFew}, {3, eqs("1 1 1; m", "1 1;", "1 1 1 1;"), api.ErrFew}, {40, eqs(blank(39)), api.ErrFew},
	{0, eqs("0;"), api.ErrMany}, {1, eqs("1 2/4; M"), api.ErrMany}, {2, eqs("1 1;", "1 1 1; M", "1;"), api.ErrMany}, {40, eqs(blank(41)), api.ErrMany},
	{1, eqs("2/4; M"), api.ErrForm}, {1, eqs("1/0;"), api.ErrForm}, {1, eqs("x;"), api.ErrForm}, {1, eqs("1/-2;"), api.ErrForm}, {2, eqs("1 0/2;", "1;"), api.ErrForm}, {2, eqs("-0 " + large + ";"), api.ErrForm}, {1, eqs("1;", "1;", "01;"), api.ErrForm}, {1, []api.UnifyEq{{Exps: []api.Rat{{}}}}, api.ErrForm},
	{1, eqs(large + ";"), api.ErrLarge}, {1, eqs("1/" + large + "; M"), api.ErrLarge}, {2, eqs("-" + large + " 2/4;"), api.ErrLarge},
	{1, eqs("1; M"), api.ErrName}, {0, eqs("; m", "; s M"), api.ErrName}, {1, eqs("1; m1"), api.ErrName}, {1, eqs("1; M", "1 1;"), api.ErrName},
	{1, eqs("1; s m"), api.ErrOrder}, {1, eqs("1; m m"), api.ErrOrder},
	{1, eqs("1; m^2/4"), api.ErrForm}, {1, eqs("1; m^" + large), api.ErrLarge}, {1, eqs("1; m^0"), api.ErrValue}, {1, eqs("0;", "1; m^0", "2/4;"), api.ErrValue},
}

// taking is the functions of a system; what comes behind it is not valid, either.
var taking = []struct {
	name string
	call func(n int, l []api.UnifyEq) outcome
}{
	{"Check", func(n int, l []api.UnifyEq) outcome { return only(unify.Check(n, l)) }},
	{"Holds", func(n int, l []api.UnifyEq) outcome { return truth(unify.Holds(n, l, dims("M"))) }},
	{"Solve", func(n int, l []api.UnifyEq) outcome { return answers(unify.Solve(n, l)) }},
	{"Free", func(n int, l []api.UnifyEq) outcome { return list(unify.Free(n, l)) }},
	{"Instance", func(n int, l []api.UnifyEq) outcome { return solution(unify.Instance(n, l, dims("M"))) }},
	{"Clash", func(n int, l []api.UnifyEq) outcome { return list(unify.Clash(n, l)) }},
	{"Proof", func(n int, l []api.UnifyEq) outcome { return exponents(unify.Proof(n, l)) }},
	{"Follows", func(n int, l []api.UnifyEq) outcome { return follows(n, l, "1 1 1 1 1; M") }},
	{"Derive", func(n int, l []api.UnifyEq) outcome { return exponents(unify.Derive(n, l, eq("1 1 1 1 1; M"))) }},
	{"Same", func(n int, l []api.UnifyEq) outcome { return truth(unify.Same(n, l, eqs("1 1 1 1 1; M"))) }},
	{"Only", func(n int, l []api.UnifyEq) outcome { return powers(unify.Only(n, l, -1)) }},
}

// P5.1, and the errors of a system come before all others.
func TestInvalid(t *testing.T) {
	for _, x := range invalid {
		for _, f := range taking {
			expect(t, f.name+" of "+shownEqs(x.eqs), f.call(x.n, x.eqs), none(x.e))
		}
		if x.n < 0 || x.n > 40 {
			continue
		}
		clash := eqs(blank(x.n)+"; m", blank(x.n)+"; s")
		expect(t, "Same of others "+shownEqs(x.eqs), truth(unify.Same(x.n, clash, x.eqs)), none(x.e))
		if len(x.eqs) == 1 {
			expect(t, "Follows "+shownEqs(x.eqs), truth(unify.Follows(x.n, clash, x.eqs[0])), none(x.e))
			expect(t, "Derive "+shownEqs(x.eqs), exponents(unify.Derive(x.n, clash, x.eqs[0])), none(x.e))
		}
	}
}

// P5.1
func TestCheck(t *testing.T) {
	for _, x := range []struct {
		n   int
		eqs []api.UnifyEq
	}{
		{0, nil}, {40, nil}, {0, eqs("; m", ";")}, {1, fillEqs(eq("1; m"), 40)}, {40, fillEqs(eq(single(40, 39, "1/2")+"; kg m^-2"), 40)}, {3, systemU()}, {2, eqs("-" + repeat("9", 400) + " 1/" + nearly + "; m^" + nearly)},
	} {
		expect(t, "Check of "+shownEqs(x.eqs), only(unify.Check(x.n, x.eqs)), fine(""))
	}
}

// P5.1 and P5.3: errors of the dimensions
func TestDimensions(t *testing.T) {
	for _, x := range []struct {
		dims            [][]api.Power
		holds, instance api.Errno
	}{
		{dims("m", "M"), api.ErrName, api.ErrName}, {dims("s m", "M"), api.ErrOrder, api.ErrOrder}, {dims("m", "", "", "m^2/4"), api.ErrForm, api.ErrForm}, {dims("m^0"), api.ErrValue, api.ErrValue}, {dims("m^" + large), api.ErrLarge, api.ErrLarge},
		{nil, api.ErrFew, api.ErrFew}, {dims("m"), api.ErrFew, api.OK}, {dims("m", "s"), api.ErrFew, api.ErrMany}, {dims("m", "", ""), api.OK, api.ErrMany}, {dims("m", "", "", ""), api.ErrMany, api.ErrMany},
	} {
		_, e := unify.Holds(3, systemS(), x.dims)
		expect(t, "Holds of "+shownDims(x.dims), only(e), only(x.holds))
		_, e = unify.Instance(3, systemS(), x.dims)
		expect(t, "Instance of "+shownDims(x.dims), only(e), only(x.instance))
	}
	for _, x := range []struct {
		dims [][]api.Power
		e    api.Errno
	}{{nil, api.ErrClash}, {dims("", "", "", ""), api.ErrClash}, {dims("M"), api.ErrName}} {
		expect(t, "Instance of a clash", solution(unify.Instance(3, systemU(), x.dims)), none(x.e))
	}
}

// P5.1
func TestHolds(t *testing.T) {
	for _, x := range []struct {
		n    int
		eqs  []api.UnifyEq
		dims [][]api.Power
		want string
	}{
		{0, nil, nil, "true"}, {0, eqs(";"), nil, "true"}, {0, eqs("; m"), nil, "false"}, {2, nil, dims("m", "s"), "true"},
		{1, eqs("1; m"), dims("m^-1"), "true"}, {1, eqs("1; m"), dims("m"), "false"}, {1, eqs("2; m"), dims("m^-1/2"), "true"}, {1, eqs("0;"), dims("m"), "true"},
		{2, eqs("1 1;", "1 -1;"), dims("m", "m^-1"), "false"}, {2, eqs("1 1;", "1 -1;"), dims("", ""), "true"}, {2, eqs("1 1; s", "1 -1; m^-2 s"), dims("m", "m^-1"), "false"}, {2, eqs("1 1; s", "1 -1; m^-2 s"), dims("m s^-1", "m^-1"), "true"},
		{1, eqs(nearly + "; m^-" + nearly), dims("m"), "true"}, {1, eqs(nearly + ";"), dims("m^" + nearly), "false"}, {2, eqs(nearly + " -" + nearly + ";"), dims("m^"+nearly, "m^"+nearly), "true"},
	} {
		expect(t, "Holds("+shownEqs(x.eqs)+"; "+shownDims(x.dims)+")", truth(unify.Holds(x.n, x.eqs, x.dims)), fine(x.want))
	}
}

// P5.2
func TestSolve(t *testing.T) {
	for _, x := range []struct {
		n          int
		eqs        []api.UnifyEq
		free, want string
	}{
		{0, nil, "", ""}, {0, eqs(";", ";"), "", ""}, {2, nil, "0 1", "1 0; | 0 1;"}, {1, eqs("0;", "0;"), "0", "1;"},
		{1, eqs("1; m"), "", "0; m^-1"}, {1, eqs("2; m^-3"), "", "0; m^3/2"}, {1, eqs("0;", "-2/3; m", "2/3; m^-1"), "", "0; m^3/2"},
		{2, eqs("0 3; kg"), "0", "1 0; | 0 0; kg^-1/3"}, {2, eqs("1 1;"), "1", "0 -1; | 0 1;"}, {2, eqs("2 -1; m"), "1", "0 1/2; m^-1/2 | 0 1;"}, {2, eqs("1 1;", "1 -1; m"), "", "0 0; m^-1/2 | 0 0; m^1/2"},
		{3, eqs("1 1 1;"), "1 2", "0 -1 -1; | 0 1 0; | 0 0 1;"}, {3, eqs("0 1 1;", "1 0 1;", "1 1 0; s"), "", "0 0 0; s^-1/2 | 0 0 0; s^-1/2 | 0 0 0; s^1/2"},
		{3, eqs("0 1 1; m", "1 1 0; s", "1 0 -1; m^-1 s"), "2", "0 0 1; m s^-1 | 0 0 -1; m^-1 | 0 0 1;"},
		{4, eqs("0 0 1 1;", "1 1 1 1; m"), "1 3", "0 -1 0 0; m^-1 | 0 1 0 0; | 0 0 0 -1; | 0 0 0 1;"},
		{4, eqs("1 2 3 4; kg", "2 4 6 9; s"), "1 2", "0 -2 -3 0; kg^-9 s^4 | 0 1 0 0; | 0 0 1 0; | 0 0 0 0; kg^2 s^-1"},
		{2, eqs("1 -"+nearly+";", "0 "+nearly+"; m"), "", "0 0; m^-1 | 0 0; m^-1/" + nearly},
		{2, eqs(half+" -"+half+";", half+" -1;"), "", "0 0; | 0 0;"},
	} {
		expect(t, "Free("+shownEqs(x.eqs)+")", list(unify.Free(x.n, x.eqs)), fine(x.free))
		expect(t, "Solve("+shownEqs(x.eqs)+")", answers(unify.Solve(x.n, x.eqs)), fine(x.want))
		expect(t, "Clash("+shownEqs(x.eqs)+")", list(unify.Clash(x.n, x.eqs)), none(api.ErrNone))
		expect(t, "Proof("+shownEqs(x.eqs)+")", exponents(unify.Proof(x.n, x.eqs)), none(api.ErrNone))
	}
}

// P5.3
func TestInstance(t *testing.T) {
	for _, x := range []struct {
		n    int
		eqs  []api.UnifyEq
		dims [][]api.Power
		want string
	}{
		{0, eqs(";"), nil, ""}, {2, nil, dims("m", ""), "m, "}, {1, eqs("2; m"), nil, "m^-1/2"}, {2, eqs("0 3; kg"), dims("kg^2 s"), "kg^2 s, kg^-1/3"},
		{3, systemS(), dims(""), "m, , "}, {3, systemS(), dims("m^-1/2"), ", m^-1, m^-1/2"}, {3, eqs("1 1 1;"), dims("m", "m^-1 s"), "s^-1, m, m^-1 s"}, {3, eqs("1 2 -3;"), dims("m^3", "m^2"), ", m^3, m^2"},
		{4, eqs("0 0 1 1;", "1 1 1 1; m"), dims("s", "kg"), "m^-1 s^-1, s, kg^-1, kg"},
	} {
		expect(t, "Instance("+shownEqs(x.eqs)+"; "+shownDims(x.dims)+")", solution(unify.Instance(x.n, x.eqs, x.dims)), fine(x.want))
	}
}

// P5.4
func TestClash(t *testing.T) {
	for _, x := range []struct {
		n           int
		eqs         []api.UnifyEq
		want, proof string
	}{
		{0, eqs("; m"), "0", "1"}, {0, eqs(";", "; m", "; s"), "1", "0 1 0"}, {2, eqs("1 0;", "0 1;", "1 1; m", "0 0; s"), "3", "0 0 0 1"},
		{1, eqs("1; m", "2; m^2", "1; s"), "0 2", "1 0 -1"}, {1, eqs("2; m^2", "1; s", "-1; s^-1"), "0 1", "1 -2 0"}, {1, eqs("1; m", "2; m^3", "1; m"), "0 1", "1 -1/2 0"},
		{2, eqs("1 0;", "0 1;", "2 3; m"), "0 1 2", "1 3/2 -1/2"}, {2, eqs("1 1;", "1 -1;", "1 0; m", "1 0; s"), "2 3", "0 0 1 -1"}, {2, eqs("1 1; m", "1 1;", "1 0;", "0 1;"), "0 1", "1 -1 0 0"},
		{2, eqs("1 0;", "2 0; m", "0 1;", "0 1; m"), "0 1", "1 -1/2 0 0"}, {2, eqs("0 1;", "1 0;", "0 1; m", "1 0; m"), "0 2", "1 0 -1 0"},
		{3, eqs("1 -1 0;", "0 1 -1;", "1 0 -1;", "1 0 -1; m"), "2 3", "0 0 1 -1"}, {3, eqs("1 -1 0; m", "0 1 -1;", "-1 0 1;", "1 1 -2; m"), "0 1 2", "1 1 1 0"},
		{3, eqs("1 -1 0;", "1 -1 0;", "0 1 -1;", "0 1 -1;", "1 0 -1; m"), "0 2 4", "1 0 1 0 -1"},
		{3, eqs("0 0 0;", "0 0 0;", "1 2 3;", "-1 -2 -3; m"), "2 3", "0 0 1 1"},
		{1, eqs(nearly+"; m", "1; m^1/"+nearly, "1;"), "0 2", "1 0 -" + nearly},
	} {
		expect(t, "Clash("+shownEqs(x.eqs)+")", list(unify.Clash(x.n, x.eqs)), fine(x.want))
		expect(t, "Proof("+shownEqs(x.eqs)+")", exponents(unify.Proof(x.n, x.eqs)), fine(x.proof))
		expect(t, "Solve("+shownEqs(x.eqs)+")", answers(unify.Solve(x.n, x.eqs)), none(api.ErrClash))
		expect(t, "Free("+shownEqs(x.eqs)+")", list(unify.Free(x.n, x.eqs)), none(api.ErrClash))
	}
}

// P5.5
func TestDerive(t *testing.T) {
	for _, x := range []struct {
		n    int
		eqs  []api.UnifyEq
		eq   string
		want string
		e    api.Errno
	}{
		{3, systemS(), "0 0 0;", "0 0", api.OK}, {3, nil, "0 0 0;", "", api.OK}, {0, nil, ";", "", api.OK}, {0, eqs(";"), ";", "0", api.OK},
		{3, systemS(), "0 0 0; m", "", api.ErrNone}, {3, systemS(), "1 -1 0;", "", api.ErrNone}, {3, systemS(), "1 -1 0; m", "", api.ErrNone}, {3, systemS(), "0 0 1;", "", api.ErrNone}, {3, nil, "1 0 0;", "", api.ErrNone}, {0, nil, "; m", "", api.ErrNone},
		{3, systemS(), "-1/2 1/2 0; m^1/2", "-1/2 0", api.OK}, {3, systemT(), "0 2 0; m^2 s^-2", "-2 0 2", api.OK},
		{1, eqs("2; m", "1; m^1/2", "3; m^3/2"), "1; m^1/2", "1/2 0 0", api.OK}, {1, eqs("0;", "1; m"), "-3; m^-3", "0 -3", api.OK}, {2, eqs("1 1;", "2 2;", "1 0;", "0 1;"), "0 3;", "3 0 -3 0", api.OK},
		{3, systemU(), "1 0 0;", "", api.ErrClash}, {0, eqs("; m"), ";", "", api.ErrClash}, {0, eqs("; m"), "; s", "", api.ErrClash},
	} {
		expect(t, "Derive("+shownEqs(x.eqs)+"; "+x.eq+")", exponents(unify.Derive(x.n, x.eqs, eq(x.eq))), outcome{x.want, x.e})
		is := "true"
		if x.e == api.ErrNone {
			is = "false"
		}
		expect(t, "Follows("+shownEqs(x.eqs)+"; "+x.eq+")", follows(x.n, x.eqs, x.eq), fine(is))
	}
}

// P5.6
func TestSame(t *testing.T) {
	S, T, U := systemS(), systemT(), systemU()
	for _, x := range []struct {
		one, other []api.UnifyEq
		want       string
	}{
		{S, S, "true"}, {S, T, "false"}, {T, S, "false"}, {S, U, "false"}, {U, S, "false"}, {U, eqs("0 0 0; mol"), "true"}, {U, U, "true"}, {nil, nil, "true"}, {nil, eqs("0 0 0;", "0 0 0;"), "true"}, {nil, S, "false"}, {S, nil, "false"}, {nil, eqs("0 0 0; m"), "false"},
		{S, eqs("2 -2 0; m^-2", "0 1/2 -1;", "1 0 -2; m^-1"), "true"}, {S, eqs("1 -1 0; m^-1"), "false"}, {S, eqs("1 -1 0; m^-1", "0 1 -2; m"), "false"}, {eqs("1 0 0;"), eqs("0 1 0;"), "false"}, {eqs("1 0 0;", "0 1 0; m"), eqs("1 1 0; m", "1 -1 0; m^-1"), "true"},
	} {
		expect(t, "Same("+shownEqs(x.one)+"; "+shownEqs(x.other)+")", truth(unify.Same(3, x.one, x.other)), fine(x.want))
	}
}

// P5.7
func TestOnly(t *testing.T) {
	for _, x := range []struct {
		n        int
		eqs      []api.UnifyEq
		variable int
		want     outcome
	}{
		{3, systemT(), 0, fine("s")}, {3, systemT(), 1, fine("m^-1 s")}, {3, eqs("0 1 0;"), 1, fine("")}, {3, eqs("0 1 0;"), 0, none(api.ErrNone)}, {3, systemS(), 2, none(api.ErrNone)}, {3, eqs("1 1 0;", "1 -1 0; m", "0 1 1;"), 0, fine("m^-1/2")},
		{3, eqs("1 1 0;", "0 1 -1;", "1 0 2; m"), 2, fine("m^-1")}, {2, eqs("1 1;"), 0, none(api.ErrNone)}, {2, eqs("1 1;"), 1, none(api.ErrNone)},
		{3, systemU(), 0, none(api.ErrClash)}, {3, systemU(), 3, none(api.ErrRange)}, {3, systemU(), -1, none(api.ErrRange)}, {3, systemS(), -1 << 60, none(api.ErrRange)}, {3, systemS(), 1 << 60, none(api.ErrRange)}, {0, nil, 0, none(api.ErrRange)}, {0, eqs("; m"), 0, none(api.ErrRange)},
	} {
		expect(t, "Only("+shownEqs(x.eqs)+")", powers(unify.Only(x.n, x.eqs, x.variable)), x.want)
	}
}

// Numbers on the way can be of any size; those of results cannot.
func TestLarge(t *testing.T) {
	squared := eqs("1 -"+half+" 0;", "0 1 -"+half+";") // the first variable is the third one to the square of half
	back := append(squared, eq("0 0 "+half+"; m"))
	both := append(squared, eqs("1 0 0; m", "0 0 1;")...)
	for _, x := range []struct {
		call      string
		got, want outcome
	}{
		{"Solve", answers(unify.Solve(3, squared)), none(api.ErrLarge)},
		{"Free", list(unify.Free(3, squared)), fine("2")},
		{"Instance", solution(unify.Instance(3, squared, dims("m"))), none(api.ErrLarge)},
		{"Instance of none", solution(unify.Instance(3, squared, dims(""))), fine(", , ")},
		{"Instance of a small one", solution(unify.Instance(3, squared, dims("m^1/"+half))), fine("m^" + half + ", m, m^1/" + half)},
		{"Only", powers(unify.Only(3, squared, 0)), none(api.ErrNone)},
		{"Solve back", answers(unify.Solve(3, back)), fine("0 0 0; m^-" + half + " | 0 0 0; m^-1 | 0 0 0; m^-1/" + half)},
		{"Only back", powers(unify.Only(3, back, 0)), fine("m^-" + half)},
		{"Clash", list(unify.Clash(3, both)), fine("0 1 2 3")},
		{"Proof", exponents(unify.Proof(3, both)), none(api.ErrLarge)},
		{"Derive", exponents(unify.Derive(1, eqs("1/"+half+";"), eq(half+";"))), none(api.ErrLarge)},
		{"Follows", follows(1, eqs("1/"+half+"; m"), half+"; m"), fine("false")},
		{"Follows a large one", follows(1, eqs("1/"+half+"; m^1/"+nearly), half+"; m^"+ten(101)), fine("true")},
		{"Same", truth(unify.Same(1, eqs("1/"+half+"; m^1/"+nearly), eqs(half+"; m^"+ten(101)))), fine("true")},
		{"Solve of one", answers(unify.Solve(1, eqs("1/"+half+"; m^"+half))), none(api.ErrLarge)},
		{"Only of one", powers(unify.Only(1, eqs("1/"+half+"; m^"+half), 0)), none(api.ErrLarge)},
	} {
		expect(t, x.call, x.got, x.want)
	}
}

// The greatest prime below 2^256 and others are numbers like all others.
func TestPrimes(t *testing.T) {
	for _, p := range []string{"2", "3", "1000000007", "4294967291", "2305843009213693951", "18446744073709551557", "170141183460469231731687303715884105727", "115792089237316195423570985008687907853269984665640564039457584007913129639747"} {
		for _, x := range []struct {
			eqs  []api.UnifyEq
			want string
		}{
			{eqs("1 0; m^"+p, "1 0;"), "0 1"}, {eqs("1 0; m^"+p, "1 0;", "0 1;", "1 1;", "1 2;", "0 0;"), "0 1"}, {eqs("0 0; m^" + p), "0"}, {eqs(p+" 0; m", "1 0;", "0 "+p+";", p+" 1; m"), "0 1"}, {eqs(p+" 1; m", "0 1; m", "1 0; s"), "0 1 2"}, {eqs("1 "+p+";", "1 0; m", "1 1; m"), "0 1 2"},
			{eqs("1/"+p+" 1; m", "1 "+p+"; m^"+p, "0 1;", "1 0; s"), "0 2 3"},
		} {
			expect(t, "Clash("+shownEqs(x.eqs)+")", list(unify.Clash(2, x.eqs)), fine(x.want))
		}
	}
}

// link says that a variable is another one times a dimension.
func link(n, one, other int, d string) api.UnifyEq {
	return eq(pair(n, one, other, "1", "-1") + "; " + d)
}

// As many variables and equations as there may be.
func TestMany(t *testing.T) {
	var chain, doubles, torus []api.UnifyEq
	for at := range 38 {
		chain = append(chain, link(39, at, at+1, ""))
	}
	chain = append(chain, link(39, 38, 0, "m"), eq(blank(39)+";"))
	for at := range 20 {
		d := ""
		if at == 7 {
			d = "m"
		}
		doubles = append(doubles, link(20, at, (at+1)%20, d), link(20, (at+1)%20, at, strings.ReplaceAll(d, "m", "m^-1")))
	}
	for at := range 20 {
		down, right := "", ""
		if at/5 == 3 {
			down = "m"
		}
		if at%5 == 4 {
			right = "s"
		}
		torus = append(torus, link(20, at, (at+5)%20, down), link(20, at, at/5*5+(at+1)%5, right))
	}
	for _, x := range []struct {
		name string
		n    int
		eqs  []api.UnifyEq
		want string
	}{
		{"a chain", 39, chain, counted(0, 39, 1)}, {"a chain of doubles", 20, doubles, counted(0, 40, 2)}, {"a torus", 20, torus, "0 10 20 30"}, {"equal ones", 1, fillEqs(eq("1; m"), 39), ""}, {"equal ones and another one", 1, append(fillEqs(eq("1; m"), 39), eq("1;")), "0 39"},
	} {
		want := fine(x.want)
		if x.want == "" {
			want = none(api.ErrNone)
		}
		expect(t, x.name, list(unify.Clash(x.n, x.eqs)), want)
	}
	proof := must[[]api.Rat](t, "Proof")(unify.Proof(39, chain))
	expect(t, "the proof of a chain", exponents(proof, api.OK), fine(strings.TrimSpace(repeat("1 ", 39)+"0")))
	free := must[[]int](t, "Free")(unify.Free(40, chainOf(40)))
	expect(t, "Free of a chain", list(free, api.OK), fine("39"))
	expect(t, "Only of a chain", powers(unify.Only(40, append(chainOf(40), eq(single(40, 39, "1")+"; s")), 0)), fine("m^-39 s^-1"))
}

// chainOf says that each of n variables is the next one times m^-1.
func chainOf(n int) []api.UnifyEq {
	var out []api.UnifyEq
	for at := range n - 1 {
		out = append(out, link(n, at, at+1, "m"))
	}
	return out
}

// counted is numbers from one to another, by steps.
func counted(from, to, step int) string {
	var out []int
	for n := from; n < to; n += step {
		out = append(out, n)
	}
	return list(out, api.OK).text
}
