package enclose_test

import (
	"strconv"
	"strings"
	"testing"

	"metewand/api"
	"metewand/enclose"
	"metewand/exact"
	"metewand/ratio"
)

// The examples of the chapter, in its order.
func TestExamples(t *testing.T) {
	a, b, c, z := enc("1..2"), enc("-1..3"), enc("1/2..1/2"), enc("0..0")
	for _, x := range []struct {
		call string
		got  outcome
		want outcome
	}{
		{"Check(a)", only(enclose.Check(a)), fine("")},
		{"Check of 2..1", only(enclose.Check(enc("2..1"))), only(api.ErrOrder)},
		{"Check of 2/4..1", only(enclose.Check(enc("2/4..1"))), only(api.ErrForm)},
		{"Has(b; 0)", truth(enclose.Has(b, rat("0"))), fine("true")},
		{"Has(a; 3)", truth(enclose.Has(a, rat("3"))), fine("false")},
		{"Plus(a, b)", one(enclose.Plus(a, b)), fine("0..5")},
		{"Minus(a, b)", one(enclose.Minus(a, b)), fine("-2..3")},
		{"Times(a, b)", one(enclose.Times(a, b)), fine("-2..6")},
		{"Times(b, b)", one(enclose.Times(b, b)), fine("-3..9")},
		{"Over(b, a)", one(enclose.Over(b, a)), fine("-1..3")},
		{"Over(a, b)", one(enclose.Over(a, b)), none(api.ErrZero)},
		{"Power(b; 2)", one(enclose.Power(b, 2)), fine("0..9")},
		{"Power(b; 3)", one(enclose.Power(b, 3)), fine("-1..27")},
		{"Power(b; 0)", one(enclose.Power(b, 0)), fine("1..1")},
		{"Solve(a, b, -9..9)", list(enclose.Solve(a, b, enc("-9..9"))), fine("-9..-1 1/3..9")},
		{"Solve(a, b, 0..9)", list(enclose.Solve(a, b, enc("0..9"))), fine("1/3..9")},
		{"Solve(a, z, a)", list(enclose.Solve(a, z, a)), fine("")},
		{"Solve(z, b, a)", list(enclose.Solve(z, b, a)), fine("1..2")},
		{"Solve(a, c, 0..3)", list(enclose.Solve(a, c, enc("0..3"))), fine("2..3")},
		{"Meet(a, b)", one(enclose.Meet(a, b)), fine("1..2")},
		{"Meet(a, c)", one(enclose.Meet(a, c)), none(api.ErrNone)},
		{"Hull(a, c)", one(enclose.Hull(a, c)), fine("1/2..2")},
		{"Below(c, a)", verdict(enclose.Below(c, a)), fine("yes")},
		{"Below(a, c)", verdict(enclose.Below(a, c)), fine("no")},
		{"Below(a, b)", verdict(enclose.Below(a, b)), fine("maybe")},
		{"Below(a, a)", verdict(enclose.Below(a, a)), fine("maybe")},
		{"Round(1/3..2/3; 2)", one(enclose.Round(enc("1/3..2/3"), 2)), fine("33/100..67/100")},
		{"Round(a; 0)", one(enclose.Round(a, 0)), fine("1..2")},
		{"Round(a; 9)", one(enclose.Round(a, 9)), none(api.ErrValue)},
		{"Root(a; 3)", one(enclose.Root(a, 3)), fine("1..283/200")},
		{"Root(z; 2)", one(enclose.Root(z, 2)), fine("0..0")},
		{"Root(b; 1)", one(enclose.Root(b, 1)), none(api.ErrValue)},
		{"Exp(z; 3)", one(enclose.Exp(z, 3)), fine("1..1")},
		{"Exp(a; 2)", one(enclose.Exp(a, 2)), fine("271/100..739/100")},
		{"Exp(5..5; 2)", one(enclose.Exp(enc("5..5"), 2)), none(api.ErrValue)},
		{"Log(a; 4)", one(enclose.Log(a, 4)), fine("0..1733/2500")},
		{"Log(1..1; 2)", one(enclose.Log(enc("1..1"), 2)), fine("0..0")},
		{"Log(z; 1)", one(enclose.Log(z, 1)), none(api.ErrValue)},
		{"Sin(z; 2)", one(enclose.Sin(z, 2)), fine("0..0")},
		{"Sin(a; 3)", one(enclose.Sin(a, 3)), fine("841/1000..1")},
		{"Sin(-4..4; 1)", one(enclose.Sin(enc("-4..4"), 1)), fine("-1..1")},
	} {
		expect(t, x.call, x.got, x.want)
	}
}

// large is the least whole number that is too large, most the greatest one that is not, and nearly a tenth of large; the square of half is too large.
var large, most, nearly, half = ten(400), repeat("9", 400), ten(399), ten(250)

// invalid is enclosures that are not valid, with their errors.
var invalid = []struct {
	a api.Enclosure
	e api.Errno
}{
	{api.Enclosure{}, api.ErrForm}, {enc("2/4..1"), api.ErrForm}, {enc("1..2/4"), api.ErrForm}, {enc("3..2/4"), api.ErrForm}, {enc("0/2..1"), api.ErrForm}, {enc("0..1/0"), api.ErrForm}, {enc("-1/-2..1"), api.ErrForm}, {enc("x..1"), api.ErrForm}, {enc("0..+1"), api.ErrForm}, {enc("-0"), api.ErrForm}, {enc("01"), api.ErrForm}, {joined(rat("1"), api.Rat{}), api.ErrForm},
	{enc(large), api.ErrLarge}, {enc("0.." + large), api.ErrLarge}, {enc("-" + large + "..2/4"), api.ErrLarge}, {enc("1/" + large + "..0"), api.ErrLarge}, {enc("2/4.." + large), api.ErrForm},
	{enc("2..1"), api.ErrOrder}, {enc("0..-1"), api.ErrOrder}, {enc("1/2..1/3"), api.ErrOrder}, {enc("1/3..333333333333/1000000000000"), api.ErrOrder}, {enc(most + "..1"), api.ErrOrder},
}

// first is the functions by their first argument, with others that have errors, too; second those by a second one that is an enclosure, with a first one that meets all other demands of none.
var first = []struct {
	name string
	call func(a api.Enclosure) outcome
}{
	{"Check", func(a api.Enclosure) outcome { return only(enclose.Check(a)) }},
	{"Has", func(a api.Enclosure) outcome { return truth(enclose.Has(a, rat("0/3"))) }},
	{"Plus", func(a api.Enclosure) outcome { return one(enclose.Plus(a, other(a))) }},
	{"Minus", func(a api.Enclosure) outcome { return one(enclose.Minus(a, other(a))) }},
	{"Times", func(a api.Enclosure) outcome { return one(enclose.Times(a, other(a))) }},
	{"Over", func(a api.Enclosure) outcome { return one(enclose.Over(a, other(a))) }},
	{"Over", func(a api.Enclosure) outcome { return one(enclose.Over(a, enc("0"))) }},
	{"Solve", func(a api.Enclosure) outcome { return list(enclose.Solve(a, other(a), other(a))) }},
	{"Power", func(a api.Enclosure) outcome { return one(enclose.Power(a, -1)) }},
	{"Meet", func(a api.Enclosure) outcome { return one(enclose.Meet(a, other(a))) }},
	{"Hull", func(a api.Enclosure) outcome { return one(enclose.Hull(a, other(a))) }},
	{"Below", func(a api.Enclosure) outcome { return verdict(enclose.Below(a, other(a))) }},
	{"Round", func(a api.Enclosure) outcome { return one(enclose.Round(a, -1)) }},
	{"Root", func(a api.Enclosure) outcome { return one(enclose.Root(a, -1)) }},
	{"Exp", func(a api.Enclosure) outcome { return one(enclose.Exp(a, -1)) }},
	{"Log", func(a api.Enclosure) outcome { return one(enclose.Log(a, -1)) }},
	{"Sin", func(a api.Enclosure) outcome { return one(enclose.Sin(a, -1)) }},
}

// other returns an enclosure with another error.
func other(a api.Enclosure) api.Enclosure {
	if enclose.Check(a) == api.ErrForm {
		return enc("2..1")
	}
	return enc("2/4")
}

// P6.1, and the errors of each argument come before those of the next one, and before all others.
func TestInvalid(t *testing.T) {
	fit := enc("1..2")
	for _, x := range invalid {
		for _, f := range first {
			expect(t, f.name+" of "+text(x.a), f.call(x.a), none(x.e))
		}
		for _, f := range pairs {
			expect(t, f.name+" of 1..2 and "+text(x.a), one(f.call(fit, x.a)), none(x.e))
		}
		expect(t, "Below of 1..2 and "+text(x.a), verdict(enclose.Below(fit, x.a)), none(x.e))
		expect(t, "Solve of 1..2 and "+text(x.a), list(enclose.Solve(fit, x.a, other(x.a))), none(x.e))
		expect(t, "Solve of 1..2, 0..0 and "+text(x.a), list(enclose.Solve(fit, enc("0"), x.a)), none(x.e))
		if x.e != api.ErrOrder {
			_, e := enclose.Has(fit, x.a.Hi)
			_, f := enclose.Has(fit, x.a.Lo)
			if e != x.e && f != x.e {
				t.Errorf("Has of 1..2 and an end of %s: errors %d, %d", brief(text(x.a)), e, f)
			}
		}
	}
}

// P6.1
func TestHas(t *testing.T) {
	for _, x := range []struct {
		a, n string
		want string
	}{
		{"1..2", "1", "true"}, {"1..2", "2", "true"}, {"1..2", "3/2", "true"}, {"1..2", "999999999999/1000000000000", "false"}, {"1..2", "2000000000001/1000000000000", "false"},
		{"-1/3", "-1/3", "true"}, {"-1/3", "-333333333333/1000000000000", "false"}, {"-" + most + ".." + most, "0", "true"}, {"0..1/" + most, "1/" + most, "true"}, {"0..1/" + most, "1/" + nearly, "false"}, {"-2..-1", "0", "false"},
	} {
		expect(t, "Has of "+x.a+" and "+x.n, truth(enclose.Has(enc(x.a), rat(x.n))), fine(x.want))
		expect(t, "Check of "+x.a, only(enclose.Check(enc(x.a))), fine(""))
	}
}

// P6.1 and P6.4
func TestMeet(t *testing.T) {
	for _, x := range []struct {
		a, b       string
		meet, hull string
		below      string
	}{
		{"1..2", "3..4", "", "1..4", "yes"}, {"3..4", "1..2", "", "1..4", "no"}, {"1..2", "2..3", "2..2", "1..3", "maybe"}, {"2..3", "1..2", "2..2", "1..3", "no"}, {"1..4", "2..3", "2..3", "1..4", "maybe"}, {"2..3", "1..4", "2..3", "1..4", "maybe"}, {"1..3", "2..4", "2..3", "1..4", "maybe"}, {"2..4", "1..3", "2..3", "1..4", "maybe"}, {"1", "1", "1..1", "1..1", "no"}, {"1", "1..2", "1..1", "1..2", "maybe"}, {"1..2", "1", "1..1", "1..2", "no"}, {"1..2", "2", "2..2", "1..2", "maybe"}, {"2", "1..2", "2..2", "1..2", "no"}, {"-1/2", "-1/3", "", "-1/2..-1/3", "yes"}, {"0..1/3", "166666666667/500000000000..1", "", "0..1", "yes"}, {"-" + most + "..0", "0.." + most, "0..0", "-" + most + ".." + most, "maybe"},
	} {
		a, b := enc(x.a), enc(x.b)
		want := fine(x.meet)
		if x.meet == "" {
			want = none(api.ErrNone)
		}
		expect(t, "Meet of "+x.a+" and "+x.b, one(enclose.Meet(a, b)), want)
		expect(t, "Hull of "+x.a+" and "+x.b, one(enclose.Hull(a, b)), fine(x.hull))
		expect(t, "Below of "+x.a+" and "+x.b, verdict(enclose.Below(a, b)), fine(x.below))
	}
}

// P6.2
func TestSums(t *testing.T) {
	for _, x := range []struct {
		a, b                     string
		plus, minus, times, over string
	}{
		{"1..2", "3..5", "4..7", "-4..-1", "3..10", "1/5..2/3"}, {"-2..-1", "3..5", "1..4", "-7..-4", "-10..-3", "-2/3..-1/5"}, {"1..2", "-5..-3", "-4..-1", "4..7", "-10..-3", "-2/3..-1/5"}, {"-2..-1", "-5..-3", "-7..-4", "1..4", "3..10", "1/5..2/3"}, {"-2..7", "3..5", "1..12", "-7..4", "-10..35", "-2/3..7/3"}, {"-2..7", "-5..-3", "-7..4", "1..12", "-35..10", "-7/3..2/3"},
		{"-2..7", "-3..5", "-5..12", "-7..10", "-21..35", ""}, {"-7..2", "-3..5", "-10..7", "-12..5", "-35..21", ""}, {"0", "-3..5", "-3..5", "-5..3", "0..0", ""}, {"1..2", "0", "1..2", "1..2", "0..0", ""}, {"1..2", "0..5", "1..7", "-4..2", "0..10", ""}, {"1..2", "-5..0", "-4..2", "1..7", "-10..0", ""}, {"0", "1/7..3", "1/7..3", "-3..-1/7", "0..0", "0..0"}, {"1/3", "1/2", "5/6..5/6", "-1/6..-1/6", "1/6..1/6", "2/3..2/3"}, {"0..0", "0..0", "0..0", "0..0", "0..0", ""},
	} {
		a, b := enc(x.a), enc(x.b)
		expect(t, "Plus of "+x.a+" and "+x.b, one(enclose.Plus(a, b)), fine(x.plus))
		expect(t, "Minus of "+x.a+" and "+x.b, one(enclose.Minus(a, b)), fine(x.minus))
		expect(t, "Times of "+x.a+" and "+x.b, one(enclose.Times(a, b)), fine(x.times))
		want := fine(x.over)
		if x.over == "" {
			want = none(api.ErrZero)
		}
		expect(t, "Over of "+x.a+" and "+x.b, one(enclose.Over(a, b)), want)
	}
}

// P6.2
func TestPower(t *testing.T) {
	for _, x := range []struct {
		a    string
		n    int
		want string
		e    api.Errno
	}{
		{"-2..3", 0, "1..1", 0}, {"0", 0, "1..1", 0}, {"-2..3", 1, "-2..3", 0}, {"-2..3", 2, "0..9", 0}, {"-3..2", 2, "0..9", 0}, {"-3..-2", 2, "4..9", 0}, {"2..3", 2, "4..9", 0}, {"-3..0", 2, "0..9", 0}, {"0..3", 2, "0..9", 0}, {"0", 2, "0..0", 0}, {"-2..3", 3, "-8..27", 0}, {"-3..-2", 3, "-27..-8", 0}, {"-2..1/2", 4, "0..16", 0}, {"-1/2..1/3", 5, "-1/32..1/243", 0}, {"-3/2..-1", 6, "1..729/64", 0}, {"-2..3", 6, "0..729", 0},
		{"1..2", -1, "", api.ErrValue}, {"1..2", 7, "", api.ErrValue}, {"1..2", 1 << 62, "", api.ErrValue}, {"1..2", -1 << 63, "", api.ErrValue}, {half, 7, "", api.ErrValue},
		{half, 2, "", api.ErrLarge}, {"-" + half + "..1", 3, "", api.ErrLarge}, {"0..1/" + half, 2, "", api.ErrLarge}, {"0.." + ten(199), 2, "0.." + ten(398), 0}, {most, 1, most + ".." + most, 0}, {most, 0, "1..1", 0},
	} {
		want := outcome{x.want, x.e}
		expect(t, "Power of "+x.a+" to "+strconv.Itoa(x.n), one(enclose.Power(enc(x.a), x.n)), want)
	}
}

// P6.3
func TestSolve(t *testing.T) {
	for _, x := range []struct {
		a, b, x string
		want    string
	}{
		{"1..2", "3..5", "-9..9", "1/5..2/3"}, {"1..2", "3..5", "1/4..1/2", "1/4..1/2"}, {"1..2", "3..5", "2/3..1", "2/3..2/3"}, {"1..2", "3..5", "7/10..1", ""}, {"1..2", "-5..-3", "-9..9", "-2/3..-1/5"}, {"-1..2", "3..5", "-9..9", "-1/3..2/3"}, {"0", "3..5", "-9..9", "0..0"}, {"0", "3..5", "1..9", ""},
		{"1..2", "-4..3", "-9..9", "-9..-1/4 1/3..9"}, {"-2..-1", "-4..3", "-9..9", "-9..-1/3 1/4..9"}, {"1..2", "-4..3", "-1/4..1/3", "-1/4..-1/4 1/3..1/3"}, {"1..2", "-4..3", "-1/5..1/3", "1/3..1/3"}, {"1..2", "-4..3", "-1/4..1/4", "-1/4..-1/4"}, {"1..2", "-4..3", "-1/5..1/4", ""}, {"1..2", "-4..3", "0..9", "1/3..9"}, {"1..2", "-4..3", "1..9", "1..9"}, {"1..2", "-4..3", "-9..0", "-9..-1/4"}, {"1..2", "-4..3", "-9..-1", "-9..-1"}, {"1..2", "-4..3", "0", ""},
		{"1..2", "0..3", "-9..9", "1/3..9"}, {"1..2", "-4..0", "-9..9", "-9..-1/4"}, {"-2..-1", "0..3", "-9..9", "-9..-1/3"}, {"-2..-1", "-4..0", "-9..9", "1/4..9"}, {"1..2", "0", "-9..9", ""}, {"-2..-1", "0", "-9..9", ""},
		{"0", "-4..3", "-9..9", "-9..9"}, {"0", "0", "-9..9", "-9..9"}, {"-1..1", "0", "1..2", "1..2"}, {"0..1", "0..1", "-9..9", "-9..9"}, {"-1..0", "0..1", "-9..9", "-9..9"}, {"0..1", "1", "-9..9", "0..1"},
		{most, "-1/" + most + "..1/" + most, "-" + most + ".." + most, ""}, {most, "-1/" + most + "..1", "-" + most + ".." + most, most + ".." + most},
	} {
		expect(t, "Solve of "+x.a+", "+x.b+" and "+x.x, list(enclose.Solve(enc(x.a), enc(x.b), enc(x.x))), fine(x.want))
	}
	expect(t, "Solve with a long end", list(enclose.Solve(enc(rough), enc("-1..7"), enc("0.."+most))), none(api.ErrLarge))
	expect(t, "Solve with a long end that is none", list(enclose.Solve(enc(rough), enc("-7..1"), enc("0.."+most))), fine(rough+".."+most))
}

// rough is a number that is too long over 7.
var rough = "1/" + most

// The ends of results that are too long
func TestLarge(t *testing.T) {
	for _, x := range []struct {
		name string
		a, b string
		want string
	}{
		{"Plus", most, "1", ""}, {"Plus", most, "-1..0", most[:399] + "8.." + most}, {"Plus", "-" + most + "..0", "-1..0", ""}, {"Plus", "1/" + most, "1/" + nearly, ""},
		{"Minus", most, "-1", ""}, {"Minus", most, "0..1", most[:399] + "8.." + most}, {"Minus", "-" + most, "0..1", ""},
		{"Times", half, half, ""}, {"Times", half, "0..1", "0.." + half}, {"Times", half, "1/" + half, "1..1"}, {"Times", "-1.." + half, "-" + half + "..1", ""}, {"Times", nearly, "9", "9" + nearly[1:] + "..9" + nearly[1:]}, {"Times", nearly, "9..10", ""},
		{"Over", half, "1/" + half, ""}, {"Over", half, "1.." + half, "1.." + half}, {"Over", "1", nearly, "1/" + nearly + "..1/" + nearly}, {"Over", "1/10", nearly, ""},
	} {
		for _, f := range pairs {
			if f.name == x.name {
				want := fine(x.want)
				if x.want == "" {
					want = none(api.ErrLarge)
				}
				expect(t, x.name+" of "+x.a+" and "+x.b, one(f.call(enc(x.a), enc(x.b))), want)
			}
		}
	}
	expect(t, "Over of large numbers and 0", one(enclose.Over(enc(half), enc("-1/"+half+"..0"))), none(api.ErrZero))
}

// Errors of the functions that are rounded outward: of places, and of numbers that are too far.
func TestFar(t *testing.T) {
	for _, f := range outwards {
		within := f.lo + ".." + f.hi
		for _, places := range []int{-1, 9, 10, 1 << 62, -1 << 63} {
			expect(t, f.name+" of "+within+" to "+strconv.Itoa(places), one(f.call(enc(within), places)), none(api.ErrValue))
		}
		for _, places := range []int{0, 8} {
			enclosure(t, f.name+" of "+within)(f.call(enc(within), places))
		}
	}
	for _, x := range []struct{ name, a string }{
		{"Root", "-1/" + most + "..1"}, {"Root", "-1"}, {"Root", "-2..-1"},
		{"Exp", "-4000001/1000000..0"}, {"Exp", "0..4000001/1000000"}, {"Exp", "5"}, {"Exp", "-" + most}, {"Exp", "-5..5"},
		{"Sin", "-4000001/1000000..0"}, {"Sin", "0..4000001/1000000"}, {"Sin", "-5"}, {"Sin", most}, {"Sin", "-5..5"},
		{"Log", "9999/1000000..1"}, {"Log", "1..100000001/1000000"}, {"Log", "0..1"}, {"Log", "-1..1"}, {"Log", "101"}, {"Log", "1/101..101"}, {"Log", "1/" + most}, {"Log", "-2"},
	} {
		for _, f := range outwards {
			if f.name == x.name {
				expect(t, x.name+" of "+x.a, one(f.call(enc(x.a), 3)), none(api.ErrValue))
			}
		}
	}
}

// P6.5
func TestRound(t *testing.T) {
	for _, x := range []struct {
		a      string
		places int
		want   string
	}{
		{"-1/3..1/3", 0, "-1..1"}, {"-1/3..1/3", 1, "-2/5..2/5"}, {"-1/3..1/3", 8, "-16666667/50000000..16666667/50000000"}, {"1/8", 3, "1/8..1/8"}, {"1/8", 2, "3/25..13/100"}, {"-1/8", 2, "-13/100..-3/25"}, {"5", 0, "5..5"}, {"1/" + most, 8, "0..1/100000000"}, {"-1/" + most, 8, "-1/100000000..0"}, {"99/100..999/1000", 1, "9/10..1"}, {most, 8, most + ".." + most}, {"0", 5, "0..0"},
	} {
		expect(t, "Round of "+x.a+" to "+strconv.Itoa(x.places), one(enclose.Round(enc(x.a), x.places)), fine(x.want))
	}
	long := enc("-" + ten(399) + "/3")
	expect(t, "Round of a long number to 0", one(enclose.Round(long, 0)), fine("-"+repeat("3", 398)+"4..-"+repeat("3", 399)))
	expect(t, "Round of a long number to 2", one(enclose.Round(long, 2)), none(api.ErrLarge))
	expect(t, "Round of a long number to 9", one(enclose.Round(long, 9)), none(api.ErrValue))
}

// P6.6
func TestRoot(t *testing.T) {
	for _, x := range []struct {
		a      string
		places int
		want   string
	}{
		{"4", 0, "2..2"}, {"4..5", 0, "2..3"}, {"3", 0, "1..2"}, {"2", 8, "141421356/100000000..141421357/100000000"}, {"1/4..9/4", 1, "1/2..3/2"}, {"1/4..9/4", 0, "0..2"}, {"4/9", 1, "6/10..7/10"}, {"4/9", 4, "6666/10000..6667/10000"}, {"1/100000000000000", 8, "1/10000000..1/10000000"}, {"1/10000000000000000", 8, "1/100000000..1/100000000"}, {"1/10000000000000001", 8, "0..1/100000000"}, {"1/9999999999999999", 8, "1/100000000..2/100000000"}, {"1/" + most, 8, "0..1/100000000"}, {most, 0, repeat("9", 200) + ".." + ten(200)}, {ten(398), 8, ten(199) + ".." + ten(199)}, {"0..2", 1, "0..15/10"},
	} {
		expect(t, "Root of "+x.a+" to "+strconv.Itoa(x.places), one(enclose.Root(enc(x.a), x.places)), fine(text(lowest(x.want))))
	}
}

// lowest returns an enclosure whose text has short numbers that need not be in lowest terms.
func lowest(text string) api.Enclosure {
	a := enc(text)
	return joined(number(ratio.Make(a.Lo.Num, a.Lo.Den)), number(ratio.Make(a.Hi.Num, a.Hi.Den)))
}

// P6.6
func TestExpLog(t *testing.T) {
	for _, x := range []struct {
		name, a string
		places  int
		want    string
	}{
		{"Exp", "1", 8, "271828182/100000000..271828183/100000000"}, {"Exp", "-4..4", 8, "1831563/100000000..5459815004/100000000"}, {"Exp", "-4..4", 0, "0..55"}, {"Exp", "-1/2", 6, "606530/1000000..606531/1000000"}, {"Exp", "0..1/" + most, 8, "1..100000001/100000000"}, {"Exp", "-1/" + most + "..0", 8, "99999999/100000000..1"}, {"Exp", "0..0", 8, "1..1"},
		{"Log", "2", 8, "69314718/100000000..69314719/100000000"}, {"Log", "1/100..100", 8, "-460517019/100000000..460517019/100000000"}, {"Log", "1/2..3/2", 0, "-1..1"}, {"Log", "1/3", 5, "-109862/100000..-109861/100000"}, {"Log", "1..1" + nearly[1:] + "/" + most[:399], 8, "0..1/100000000"}, {"Log", most[:399] + "/1" + nearly[1:] + "..1", 8, "-1/100000000..0"}, {"Log", "2/3..4/3", 4, "-4055/10000..2877/10000"}, {"Log", "1", 0, "0..0"},
	} {
		for _, f := range outwards {
			if f.name == x.name {
				expect(t, x.name+" of "+x.a+" to "+strconv.Itoa(x.places), one(f.call(enc(x.a), x.places)), fine(text(lowest(x.want))))
			}
		}
	}
}

// P6.7
func TestSin(t *testing.T) {
	for _, x := range []struct {
		a      string
		places int
		want   string
	}{
		{"1", 8, "84147098/100000000..84147099/100000000"}, {"-1", 8, "-84147099/100000000..-84147098/100000000"}, {"3", 3, "141/1000..142/1000"}, {"4", 3, "-757/1000..-756/1000"}, {"-4", 3, "756/1000..757/1000"},
		{"1..3/2", 2, "84/100..1"}, {"1..3/2", 3, "841/1000..998/1000"}, {"1..2", 3, "841/1000..1"}, {"3/2..8/5", 4, "9974/10000..1"}, {"2..4", 2, "-76/100..91/100"}, {"-2..-1", 3, "-1..-841/1000"}, {"-3/2..3/2", 3, "-998/1000..998/1000"}, {"-8/5..3/2", 4, "-1..9975/10000"}, {"-3/2..8/5", 4, "-9975/10000..1"}, {"-4..-2", 2, "-91/100..76/100"}, {"-4..-8/5", 4, "-9996/10000..7569/10000"}, {"8/5..4", 4, "-7569/10000..9996/10000"}, {"-4..0", 2, "-1..76/100"}, {"0..4", 2, "-76/100..1"}, {"-4..3/2", 2, "-1..1"}, {"-4..1", 4, "-1..8415/10000"}, {"-1..4", 4, "-8415/10000..1"},
		{"0..1/" + most, 8, "0..1/100000000"}, {"-1/" + most + "..0", 8, "-1/100000000..0"}, {"157/100", 3, "999/1000..1"}, {"157/100", 8, "99999968/100000000..99999969/100000000"},
	} {
		expect(t, "Sin of "+x.a+" to "+strconv.Itoa(x.places), one(enclose.Sin(enc(x.a), x.places)), fine(text(lowest(x.want))))
	}
}

// Numbers of 400 digits at which a value is as near to a decimal as it can be: it is known on which side, all the same.
func TestNearDecimals(t *testing.T) {
	e, logarithm, angle := euler(), logTwo(), quotient(pi(), exact.Of(6))
	for _, x := range []struct {
		name  string
		at    exact.Int
		value string
	}{
		{"Exp", logarithm, "2"}, {"Exp", logarithm.Negative(), "1/2"}, {"Log", e, "1"}, {"Log", quotient(exact.Ten(2*digits), e), "-1"}, {"Sin", angle, "1/2"}, {"Sin", angle.Negative(), "-1/2"}, {"Sin", angle.Times(exact.Of(5)), "1/2"},
	} {
		less, greater := nearest(x.at)
		value, unit := rat(x.value), rat("1/100000000")
		low, high := joined(minus(value, unit), value), joined(value, plus(value, unit))
		if x.name == "Sin" && x.at.Compare(exact.Ten(digits)) > 0 {
			low, high = high, low
		}
		for _, f := range outwards {
			if f.name == x.name {
				expect(t, f.name+" near "+x.value+", of less", one(f.call(point(less), 8)), fine(text(low)))
				expect(t, f.name+" near "+x.value+", of more", one(f.call(point(greater), 8)), fine(text(high)))
				expect(t, f.name+" near "+x.value, one(f.call(joined(less, greater), 8)), fine(text(joined(minus(value, unit), plus(value, unit)))))
			}
		}
	}
}

// Numbers of 400 digits that are as near as they can be to where the sine turns
func TestNearTurnings(t *testing.T) {
	less, greater := nearest(quotient(pi(), exact.Of(2)))
	top := "99999999/100000000..1"
	for _, a := range []api.Enclosure{point(less), point(greater), joined(less, greater), joined(rat("157/100"), less), joined(greater, rat("15708/10000"))} {
		want := top
		if a.Lo.Den == "100" {
			want = "99999968/100000000..1"
		}
		a.Hi = number(ratio.Make(a.Hi.Num, a.Hi.Den))
		expect(t, "Sin of "+text(a), one(enclose.Sin(a, 8)), fine(text(lowest(want))))
		low, high, _ := strings.Cut(want, "..")
		expect(t, "Sin of "+text(negative(a)), one(enclose.Sin(negative(a), 8)), fine(text(lowest("-"+high+"..-"+low))))
	}
}
