package dim_test

import (
	"strings"
	"testing"

	"metewand/api"
	"metewand/dim"
)

// The examples of the chapter, in its order.
func TestExamples(t *testing.T) {
	four := dims("m", "s", "m s^-1", "")
	for _, x := range []struct {
		call string
		got  outcome
		want outcome
	}{
		{"Check(m s^-2)", only(dim.Check(pw("m s^-2"))), fine("")},
		{"Check(s m)", only(dim.Check(pw("s m"))), none(api.ErrOrder)},
		{"Check(m^0)", only(dim.Check(pw("m^0"))), none(api.ErrValue)},
		{"Check(M)", only(dim.Check(pw("M"))), none(api.ErrName)},
		{"Mul(m s^-1, s)", powers(dim.Mul(pw("m s^-1"), pw("s"))), fine("m")},
		{"Mul(m, m^-1)", powers(dim.Mul(pw("m"), pw("m^-1"))), fine("")},
		{"Div(m, s^2)", powers(dim.Div(pw("m"), pw("s^2"))), fine("m s^-2")},
		{"Pow(m^2 s, 1/2)", powers(dim.Pow(pw("m^2 s"), rat("1/2"))), fine("m s^1/2")},
		{"Pow(m, 0)", powers(dim.Pow(pw("m"), rat("0"))), fine("")},
		{"Exp(m s^-2, s)", number(dim.Exp(pw("m s^-2"), "s")), fine("-2")},
		{"Exp(m s^-2, kg)", number(dim.Exp(pw("m s^-2"), "kg")), fine("0")},
		{"Exp(m s^-2, S)", number(dim.Exp(pw("m s^-2"), "S")), none(api.ErrName)},
		{"Product of m, s with 1, -2", powers(dim.Product(dims("m", "s"), rats("1 -2"))), fine("m s^-2")},
		{"Product of m, s with 1", powers(dim.Product(dims("m", "s"), rats("1"))), none(api.ErrFew)},
		{"Rebase(kg m^2, m = cm; s = h)", powers(dim.Rebase(pw("kg m^2"), stand("m = cm", "s = h"))), fine("cm^2 kg")},
		{"Rebase(n^2, n = kg m s^-2)", powers(dim.Rebase(pw("n^2"), stand("n = kg m s^-2"))), fine("kg^2 m^2 s^-4")},
		{"Rebase(m, m = s; m = s)", powers(dim.Rebase(pw("m"), stand("m = s", "m = s"))), none(api.ErrTwice)},
		{"Print(kg m^2 s^-3/2)", text(dim.Print(pw("kg m^2 s^-3/2"))), fine("kg*m^2*s^-3/2")},
		{"Print of none", text(dim.Print(nil)), fine("1")},
		{"Parse(s^-2*m)", powers(dim.Parse("s^-2*m")), fine("m s^-2")},
		{"Parse(m*m^1/2*s^0)", powers(dim.Parse("m*m^1/2*s^0")), fine("m^3/2")},
		{"Parse(1)", powers(dim.Parse("1")), fine("")},
		{"Parse(m^)", powers(dim.Parse("m^")), none(api.ErrForm)},
		{"Parse(m*)", powers(dim.Parse("m*")), none(api.ErrForm)},
		{"Parse(1*m)", powers(dim.Parse("1*m")), none(api.ErrForm)},
		{"Parse(m^0.5)", powers(dim.Parse("m^0.5")), none(api.ErrForm)},
		{"Rank", count(dim.Rank(four)), fine("2")},
		{"Express(m^2 s)", numbers(dim.Express(four, pw("m^2 s"))), fine("2 1 0 0")},
		{"Express(kg)", numbers(dim.Express(four, pw("kg"))), none(api.ErrNone)},
		{"Groups", lists(dim.Groups(four)), fine("-1 1 1 0; 0 0 0 1")},
		{"Groups of a flow", lists(dim.Groups(dims("kg m^-3", "m s^-1", "m", "kg m^-1 s^-1"))), fine("-1 -1 -1 1")},
	} {
		expect(t, x.call, x.got, x.want)
	}
}

// large is the least whole number that is too large, and nearly a tenth of it.
var large, nearly = ten(400), ten(399)

// invalid is dimensions that are not valid, with their errors.
var invalid = []struct {
	d string
	e api.Errno
}{
	{"M", api.ErrName}, {"^2", api.ErrName}, {"m1", api.ErrName}, {"abcdefghi", api.ErrName}, {"mM", api.ErrName}, {"m-", api.ErrName}, {"`", api.ErrName}, {"{", api.ErrName}, {"\xff", api.ErrName}, {"é", api.ErrName}, {"m\x00", api.ErrName}, {"*", api.ErrName}, {"1", api.ErrName}, {"^0", api.ErrName}, {"^2/4", api.ErrName},
	{"s M", api.ErrName}, {"m ^2", api.ErrName}, {"a b C^0", api.ErrName},
	{"s m", api.ErrOrder}, {"m m", api.ErrOrder}, {"m m^0", api.ErrOrder}, {"s m^0", api.ErrOrder}, {"s m^2/4", api.ErrOrder}, {"mm m", api.ErrOrder}, {"a c b", api.ErrOrder}, {"m m^-1", api.ErrOrder},
	{"m^2/4", api.ErrForm}, {"m^0/2", api.ErrForm}, {"m^1/0", api.ErrForm}, {"m^x", api.ErrForm}, {"m^01", api.ErrForm}, {"m^1/-2", api.ErrForm}, {"m^-0", api.ErrForm}, {"m^", api.ErrForm}, {"m^2/4 s^0", api.ErrForm}, {"m^2/4 a", api.ErrForm}, {"m s^3/3", api.ErrForm},
	{"m^" + large, api.ErrLarge}, {"m^-" + large, api.ErrLarge}, {"m^1/" + large, api.ErrLarge}, {"a m^" + large + " s^0", api.ErrLarge},
	{"m^0", api.ErrValue}, {"m s^0", api.ErrValue}, {"m^0 s^2/4", api.ErrValue}, {"m^0 a", api.ErrValue}, {"m^0 M", api.ErrValue},
}

// taking is the functions of a dimension that is looked at first; what comes behind it is not valid, either.
var taking = []struct {
	name string
	call func(d []api.Power) outcome
}{
	{"Check", func(d []api.Power) outcome { return only(dim.Check(d)) }},
	{"Same first", func(d []api.Power) outcome { return truth(dim.Same(d, pw("M"))) }},
	{"Same second", func(d []api.Power) outcome { return truth(dim.Same(pw("m"), d)) }},
	{"Mul first", func(d []api.Power) outcome { return powers(dim.Mul(d, pw("M"))) }},
	{"Mul second", func(d []api.Power) outcome { return powers(dim.Mul(pw("m^"+nearly), d)) }},
	{"Div first", func(d []api.Power) outcome { return powers(dim.Div(d, pw("M"))) }},
	{"Div second", func(d []api.Power) outcome { return powers(dim.Div(nil, d)) }},
	{"Pow", func(d []api.Power) outcome { return powers(dim.Pow(d, rat("2/4"))) }},
	{"Exp", func(d []api.Power) outcome { return number(dim.Exp(d, "M")) }},
	{"Product", func(d []api.Power) outcome { return powers(dim.Product([][]api.Power{nil, d, pw("M")}, rats("2/4"))) }},
	{"Product without numbers", func(d []api.Power) outcome { return powers(dim.Product([][]api.Power{d}, nil)) }},
	{"Rebase", func(d []api.Power) outcome { return powers(dim.Rebase(d, stand("M = m"))) }},
	{"Rebase for a base", func(d []api.Power) outcome {
		return powers(dim.Rebase(nil, []api.DimBase{{Base: "m"}, {Base: "s", Dim: d}, {Base: "M"}}))
	}},
	{"Print", func(d []api.Power) outcome { return text(dim.Print(d)) }},
	{"Rank", func(d []api.Power) outcome { return count(dim.Rank([][]api.Power{nil, d, pw("M")})) }},
	{"Express list", func(d []api.Power) outcome { return numbers(dim.Express([][]api.Power{nil, d}, pw("M"))) }},
	{"Express", func(d []api.Power) outcome { return numbers(dim.Express(dims("m"), d)) }},
	{"Groups", func(d []api.Power) outcome { return lists(dim.Groups([][]api.Power{pw("m"), d, pw("M")})) }},
}

// P3.1, and the errors of a dimension come before all others.
func TestInvalid(t *testing.T) {
	for _, x := range invalid {
		for _, f := range taking {
			expect(t, f.name+" of "+x.d, f.call(pw(x.d)), none(x.e))
		}
	}
}

// P3.1
func TestCheck(t *testing.T) {
	for _, d := range []string{"", "m", "m s^-2", "a b^1/2 c^-3/7 z^99", "abcdefgh", "zzzzzzzz^-1", "a aa aaa b", "m^" + repeat("9", 400), "m^-" + nearly, "m^1/" + nearly} {
		expect(t, "Check("+d+")", only(dim.Check(pw(d))), fine(""))
	}
}

// P3.1
func TestSame(t *testing.T) {
	all := []string{"", "m", "m^2", "m^-1", "m^1/2", "m s", "m s^-1", "s", "mm", "a m"}
	for i, a := range all {
		for j, b := range all {
			want := "false"
			if i == j {
				want = "true"
			}
			expect(t, "Same("+a+", "+b+")", truth(dim.Same(pw(a), pw(b))), fine(want))
		}
	}
}

// P3.2
func TestMulAndDiv(t *testing.T) {
	for _, x := range []struct{ a, b, mul, div string }{
		{"", "", "", ""}, {"m", "", "m", "m"}, {"", "m", "m", "m^-1"}, {"m", "m", "m^2", ""}, {"m", "m^-1", "", "m^2"}, {"m s^-1", "s", "m", "m s^-2"},
		{"kg m", "cd s", "cd kg m s", "cd^-1 kg m s^-1"}, {"m^1/2", "m^1/3", "m^5/6", "m^1/6"}, {"m^1/2 s", "m^-1/2 s", "s^2", "m"}, {"m^1/2", "m^1/2", "m", ""},
		{"b", "a c", "a b c", "a^-1 b c^-1"}, {"aa", "a", "a aa", "a^-1 aa"},
		{"m^" + nearly, "m^-" + nearly, "", "m^2" + repeat("0", 399)}, {"m^" + repeat("9", 399), "m", "m^" + nearly, "m^" + repeat("9", 398) + "8"},
	} {
		expect(t, "Mul("+x.a+", "+x.b+")", powers(dim.Mul(pw(x.a), pw(x.b))), fine(x.mul))
		expect(t, "Div("+x.a+", "+x.b+")", powers(dim.Div(pw(x.a), pw(x.b))), fine(x.div))
	}
	most := "m^" + repeat("9", 400)
	expect(t, "Mul of too much", powers(dim.Mul(pw(most), pw("m"))), none(api.ErrLarge))
	expect(t, "Div of too much", powers(dim.Div(pw("m^-1"), pw(most))), none(api.ErrLarge))
	expect(t, "Mul with a long denominator", powers(dim.Mul(pw("m^"+nearly), pw("m^1/11"))), none(api.ErrLarge))
	expect(t, "Mul with an exponent too large behind others", powers(dim.Mul(pw("a "+most), pw("b m"))), none(api.ErrLarge))
}

// P3.2
func TestPow(t *testing.T) {
	for _, x := range []struct {
		a, n string
		want outcome
	}{
		{"", "5", fine("")}, {"", "0", fine("")}, {"m", "0", fine("")}, {"kg m^-2 s", "0", fine("")}, {"kg s^-2", "1", fine("kg s^-2")}, {"m^2 s", "1/2", fine("m s^1/2")}, {"m^-3", "-2/3", fine("m^2")}, {"m s^-1", "-1", fine("m^-1 s")}, {"m^2/3", "3/4", fine("m^1/2")},
		{"m", repeat("9", 400), fine("m^" + repeat("9", 400))}, {"m^" + nearly, "1/" + nearly, fine("m")},
		{"m^" + nearly, "10", none(api.ErrLarge)}, {"m^1/" + nearly, "1/10", none(api.ErrLarge)}, {"a m^" + nearly, "-" + nearly, none(api.ErrLarge)},
		{"m", "2/4", none(api.ErrForm)}, {"", "1/0", none(api.ErrForm)}, {"", large, none(api.ErrLarge)}, {"m", "", none(api.ErrForm)}, {"m", "0.5", none(api.ErrForm)},
	} {
		expect(t, "Pow("+x.a+", "+x.n+")", powers(dim.Pow(pw(x.a), rat(x.n))), x.want)
	}
}

// P3.2
func TestExp(t *testing.T) {
	for _, x := range []struct {
		d, base string
		want    outcome
	}{
		{"", "m", fine("0")}, {"m", "m", fine("1")}, {"m", "mm", fine("0")}, {"mm", "m", fine("0")}, {"a^2 m^3/2 s^-1", "a", fine("2")}, {"a^2 m^3/2 s^-1", "m", fine("3/2")}, {"a^2 m^3/2 s^-1", "s", fine("-1")}, {"m", "abcdefgh", fine("0")}, {"m^-" + nearly, "m", fine("-" + nearly)},
		{"m", "", none(api.ErrName)}, {"m", "S", none(api.ErrName)}, {"m", "abcdefghi", none(api.ErrName)}, {"m", "m2", none(api.ErrName)}, {"m", " m", none(api.ErrName)}, {"m", "m^1", none(api.ErrName)}, {"", "\xff", none(api.ErrName)},
	} {
		expect(t, "Exp("+x.d+", "+x.base+")", number(dim.Exp(pw(x.d), x.base)), x.want)
	}
}

// P3.3
func TestProduct(t *testing.T) {
	for _, x := range []struct {
		l    [][]api.Power
		exps string
		want outcome
	}{
		{nil, "", fine("")}, {dims("m"), "1", fine("m")}, {dims("m"), "0", fine("")}, {dims("m", "s"), "1 -2", fine("m s^-2")}, {dims("m s", "s^2", ""), "2 -1 7", fine("m^2")}, {dims("m^2", "m"), "1/2 -1", fine("")}, {dims("m", "m", "m"), "1/2 1/3 1/6", fine("m")}, {dims("b", "a", "c"), "1 1 1", fine("a b c")}, {dims("", ""), "1 2", fine("")},
		{dims("m^"+nearly, "m^"+nearly, "m"), "10 -10 1", fine("m")}, {dims("m^"+nearly, "m^-"+nearly), nearly + " " + nearly, fine("")}, {dims("m^"+nearly, "m^"+nearly), "5 5", none(api.ErrLarge)}, {dims("m^1/"+nearly, "m^1/11"), "1 1", none(api.ErrLarge)},
		{dims("m", "s"), "1", none(api.ErrFew)}, {dims("m"), "", none(api.ErrFew)}, {dims("m", "s"), "1 2 3", none(api.ErrMany)}, {nil, "1", none(api.ErrMany)},
		{dims("m", "s"), "1 2 3/3", none(api.ErrForm)}, {dims("m", "s"), "2/4", none(api.ErrForm)}, {dims("m"), large + " 2/4", none(api.ErrLarge)}, {dims("m"), "2/4 " + large, none(api.ErrForm)}, {nil, large, none(api.ErrLarge)}, {dims("m^" + nearly), "10 1", none(api.ErrMany)},
	} {
		expect(t, "Product with "+x.exps, powers(dim.Product(x.l, rats(x.exps))), x.want)
	}
}

// P3.4
func TestRebase(t *testing.T) {
	for _, x := range []struct {
		d     string
		bases []api.DimBase
		want  outcome
	}{
		{"", nil, fine("")}, {"m", nil, fine("m")}, {"kg m^2", stand("m = cm", "s = h"), fine("cm^2 kg")}, {"n^2", stand("n = kg m s^-2"), fine("kg^2 m^2 s^-4")}, {"m^2", stand("m ="), fine("")}, {"m^1/2", stand("m = cm^2 s"), fine("cm s^1/2")}, {"m^-1 s", stand("m = s"), fine("")}, {"m s^-1", stand("m = s"), fine("")},
		{"m s", stand("m = s", "s = m"), fine("m s")}, {"m s^2", stand("m = s", "s = m"), fine("m^2 s")}, {"m", stand("m = s", "s = kg"), fine("s")}, {"a b c", stand("b = z"), fine("a c z")}, {"m", stand("m = m^2"), fine("m^2")}, {"m", stand("m = m"), fine("m")}, {"mm", stand("m = s"), fine("mm")}, {"m", stand("mm = s"), fine("m")},
		{"a^" + nearly + " b^-" + nearly, stand("a = m^10", "b = m^10"), fine("")}, {"m^" + nearly, stand("m = s^10"), none(api.ErrLarge)}, {"m", stand("s = kg^"+nearly, "m = a"), fine("a")},
		{"m", stand("m = s", "m = s"), none(api.ErrTwice)}, {"m", stand("m = s", "s = m", "m = s^0"), none(api.ErrTwice)}, {"m", stand("m = s", " = s"), none(api.ErrName)}, {"m", stand("S = s^0"), none(api.ErrName)}, {"", stand("abcdefghi = s"), none(api.ErrName)}, {"m", stand("m = s^0", "m = s"), none(api.ErrValue)}, {"m", stand("m = s a", "M = s"), none(api.ErrOrder)}, {"m", stand("s = M", "s = m"), none(api.ErrName)}, {"m", stand("m = s^2/4"), none(api.ErrForm)}, {"m^" + nearly, stand("m = m^10", "M ="), none(api.ErrName)},
	} {
		expect(t, "Rebase("+x.d+")", powers(dim.Rebase(pw(x.d), x.bases)), x.want)
	}
}

// P3.5
func TestPrint(t *testing.T) {
	for _, x := range []struct {
		d    string
		want outcome
	}{
		{"", fine("1")}, {"m", fine("m")}, {"m^-1", fine("m^-1")}, {"m^1/2", fine("m^1/2")}, {"m^-1/2", fine("m^-1/2")}, {"m^10", fine("m^10")}, {"kg m^2 s^-3/2", fine("kg*m^2*s^-3/2")}, {"abcdefgh^10 cd^-1", fine("abcdefgh^10*cd^-1")}, {"a b c", fine("a*b*c")},
		{"m^" + repeat("7", 398), fine("m^" + repeat("7", 398))}, {"m^" + repeat("7", 399), none(api.ErrLarge)}, {"m^-" + repeat("7", 397), fine("m^-" + repeat("7", 397))}, {"m^-" + repeat("7", 398), none(api.ErrLarge)}, {"a m^" + repeat("7", 396), fine("a*m^" + repeat("7", 396))}, {"a m^" + repeat("7", 397), none(api.ErrLarge)}, {"m^" + repeat("9", 400) + "/" + nearly, none(api.ErrLarge)},
	} {
		expect(t, "Print("+x.d+")", text(dim.Print(pw(x.d))), x.want)
	}
	var many []api.Power
	for _, c := range "abcdefghijklmnopqrstuvwxyz" {
		for _, d := range "abcdefgh" {
			many = append(many, api.Power{Base: string([]rune{c, d}), Exp: rat("1")})
		}
	}
	s, e := dim.Print(many[:133])
	if len(s) != 398 || e != api.OK || strings.Count(s, "*") != 132 {
		t.Errorf("Print of 133 powers: %d bytes, error %d", len(s), e)
	}
	expect(t, "Print of 134 powers", text(dim.Print(many[:134])), none(api.ErrLarge))
}

// P3.5
func TestParse(t *testing.T) {
	for _, x := range []struct{ text, want string }{
		{"1", ""}, {"m", "m"}, {"m^1", "m"}, {"m^0", ""}, {"m^-1", "m^-1"}, {"m^-1/2", "m^-1/2"}, {"abcdefgh", "abcdefgh"}, {"s^-2*m", "m s^-2"}, {"m*m^1/2*s^0", "m^3/2"}, {"s*m*s", "m s^2"}, {"m*m^-1", ""}, {"m*m^-1*m", "m"}, {"c*b*a", "a b c"}, {"a^1/2*a^1/2", "a"},
		{"m*" + "s^" + repeat("9", 396), "m s^" + repeat("9", 396)}, {repeat("a*", 199) + "ab", "a^199 ab"}, {"m^" + repeat("9", 198) + "*m^1/" + repeat("7", 195), "m^" + added(t, repeat("9", 198), "1/"+repeat("7", 195))},
	} {
		expect(t, "Parse("+x.text+")", powers(dim.Parse(x.text)), fine(x.want))
	}
	for _, s := range []string{"", " ", "m^", "m*", "*m", "*", "^", "^2", "1*m", "m*1", "1*1", "11", "2", "0", "-1", "1/2", "1^2", "m^0.5", "m^1.", "m^.5", "m^1.0", "m^2/4", "m^2/1", "m^1/0", "m^1/-2", "m^+1", "m^-0", "m^01", "m^--1", "m^-", "m^x", "m^m", "M", "mM", "m s", " m", "m ", "m* s", "m *s", "m^ 2", "m^2 ", "m2", "abcdefghi", "a*abcdefghi^2", "m^2^2", "m**s", "m/s", "m.s", "m^1/2/3", "m^1/", "m^/2", "m\n", "m\x00", "é", "\xff", "m^2*", "(m)", "m^(2)", "m,s", "m^1e2", "m^٣", repeat("a", 400), "m^" + repeat("0", 398)} {
		expect(t, "Parse("+s+")", powers(dim.Parse(s)), none(api.ErrForm))
	}
	for _, s := range []string{repeat("a", 401), "m^" + repeat("9", 399), repeat("*", 401), repeat("1", 401), repeat("a*", 200) + "a", repeat("m", 1<<16)} {
		expect(t, "Parse("+s+")", powers(dim.Parse(s)), none(api.ErrLarge))
	}
}

// P3.6 and P3.8
func TestRankAndGroups(t *testing.T) {
	for _, x := range []struct {
		l      [][]api.Power
		rank   string
		groups string
	}{
		{nil, "0", ""}, {dims(""), "0", "1"}, {dims("", ""), "0", "1 0; 0 1"}, {dims("m"), "1", ""}, {dims("m", "m"), "1", "-1 1"}, {dims("m", "m^-1"), "1", "1 1"}, {dims("m^2", "m^3"), "1", "-3/2 1"}, {dims("m^1/2", "m^1/3"), "1", "-2/3 1"}, {dims("m", "s"), "2", ""}, {dims("m", "s", "m s^-1", ""), "2", "-1 1 1 0; 0 0 0 1"},
		{dims("kg m^-3", "m s^-1", "m", "kg m^-1 s^-1"), "3", "-1 -1 -1 1"}, {dims("m s", "m s^-1", "m", "s"), "2", "-1/2 -1/2 1 0; -1/2 1/2 0 1"}, {dims("", "s", "", "s^-1"), "1", "1 0 0 0; 0 0 1 0; 0 1 0 1"}, {dims("s", "m s", "m", "m^2 s^3"), "2", "1 -1 1 0; -1 -2 0 1"}, {dims("s", "s^2", "m", "m s"), "2", "-2 1 0 0; -1 0 -1 1"}, {dims("a b c", "b c", "c", "a"), "3", "-1 1 0 1"}, {dims("a b", "b c", "a c^-1", "a c"), "3", "-1 1 1 0"},
		{dims("m^"+nearly, "m^-"+nearly), "1", "1 1"}, {dims("a^"+nearly+" b", "a b^"+nearly), "2", ""},
	} {
		expect(t, "Rank of "+shownList(x.l), count(dim.Rank(x.l)), fine(x.rank))
		expect(t, "Groups of "+shownList(x.l), lists(dim.Groups(x.l)), fine(x.groups))
	}
	long := dims("m^1/"+nearly, "m^11")
	expect(t, "Rank of long exponents", count(dim.Rank(long)), fine("1"))
	expect(t, "Groups of long exponents", lists(dim.Groups(long)), none(api.ErrLarge))
	expect(t, "Groups of long exponents, not needed", lists(dim.Groups(dims("m^1/"+nearly, "s", "s"))), fine("0 -1 1"))
}

// P3.7
func TestExpress(t *testing.T) {
	for _, x := range []struct {
		l    [][]api.Power
		d    string
		want outcome
	}{
		{nil, "", fine("")}, {nil, "m", none(api.ErrNone)}, {dims(""), "", fine("0")}, {dims(""), "m", none(api.ErrNone)}, {dims("m"), "m^5/2", fine("5/2")}, {dims("m"), "", fine("0")}, {dims("m"), "s", none(api.ErrNone)}, {dims("m", "s", "m s^-1", ""), "m^2 s", fine("2 1 0 0")}, {dims("m", "s", "m s^-1", ""), "kg", none(api.ErrNone)}, {dims("m", "s", "m s^-1", ""), "kg m", none(api.ErrNone)},
		{dims("m s", "m s^-1"), "m", fine("1/2 1/2")}, {dims("m s", "m s^-1"), "s^3", fine("3/2 -3/2")}, {dims("m", "m", "s"), "m s^2", fine("1 0 2")}, {dims("", "m"), "", fine("0 0")}, {dims("kg m s^-2", "m", "s"), "kg m^2 s^-3", fine("1 1 -1")}, {dims("m", "s"), "a", none(api.ErrNone)}, {dims("m", "s"), "z", none(api.ErrNone)}, {dims("m s"), "m", none(api.ErrNone)}, {dims("m s"), "m^2 s^2", fine("2")},
		{dims("m^"+nearly, "s"), "m s^7", fine("1/" + nearly + " 7")}, {dims("m^" + nearly), "m^1/11", none(api.ErrLarge)}, {dims("m^"+nearly, "s"), "kg m^1/11", none(api.ErrNone)},
	} {
		expect(t, "Express("+shownList(x.l)+"; "+x.d+")", numbers(dim.Express(x.l, pw(x.d))), x.want)
	}
}
