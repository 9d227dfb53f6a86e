package ratio_test

import (
	"strconv"
	"strings"
	"testing"

	"metewand/api"
	"metewand/ratio"
	"metewand/whole"
)

var (
	nines = repeat("9", 400) // the greatest whole number
	large = ten(400)         // the least one that is too large
)

// invalid is numbers that are not valid, with their errors.
var invalid = []struct {
	a api.Rat
	e api.Errno
}{
	{api.Rat{}, api.ErrForm}, {q("", "1"), api.ErrForm}, {q("1", ""), api.ErrForm}, {q("-", "1"), api.ErrForm}, {q("1", "-"), api.ErrForm},
	{q("2", "4"), api.ErrForm}, {q("3", "3"), api.ErrForm}, {q("-6", "3"), api.ErrForm}, {q("0", "2"), api.ErrForm}, {q("0", "0"), api.ErrForm}, {q("1", "0"), api.ErrForm}, {q("-1", "0"), api.ErrForm},
	{q("1", "-2"), api.ErrForm}, {q("-1", "-2"), api.ErrForm}, {q("1", "-1"), api.ErrForm}, {q("0", "-1"), api.ErrForm}, {q("-0", "1"), api.ErrForm}, {q("1", "-0"), api.ErrForm},
	{q("01", "2"), api.ErrForm}, {q("1", "02"), api.ErrForm}, {q("00", "1"), api.ErrForm}, {q("+1", "2"), api.ErrForm}, {q("1", "+2"), api.ErrForm}, {q("1.5", "1"), api.ErrForm}, {q("x", "2"), api.ErrForm}, {q("1", "x"), api.ErrForm}, {q("1/2", "1"), api.ErrForm},
	{q(" 1", "2"), api.ErrForm}, {q("1", "2 "), api.ErrForm}, {q("1\n", "2"), api.ErrForm}, {q("1", "\x00"), api.ErrForm}, {q("\u0661", "1"), api.ErrForm}, {q("1", "\xff"), api.ErrForm}, {q("1", ":"), api.ErrForm}, {q("/", "1"), api.ErrForm},
	{q("1000000000", "1000000000"), api.ErrForm}, {q("1000000000000", "8"), api.ErrForm}, {q("6", "4000000000000"), api.ErrForm}, {q("1234567890123456789", "3"), api.ErrForm}, {q(nines, "3"), api.ErrForm}, {q("-3", nines), api.ErrForm}, {q(nines, nines), api.ErrForm}, {q(ten(399), ten(399)), api.ErrForm}, {q("0", nines), api.ErrForm},
	{q(large, "1"), api.ErrLarge}, {q("-"+large, "1"), api.ErrLarge}, {q("1", large), api.ErrLarge}, {q(large, large), api.ErrLarge}, {q(large, "2"), api.ErrLarge}, {q("2", large), api.ErrLarge}, {q("0", large), api.ErrLarge}, {q(repeat("3", 401), "3"), api.ErrLarge}, {q(repeat("1", 5000), "7"), api.ErrLarge},
	{q(large, "0"), api.ErrForm}, {q(large, "-1"), api.ErrForm}, {q("1", "-"+large), api.ErrForm}, {q(large, "x"), api.ErrForm}, {q("x", large), api.ErrForm}, {q(large, "01"), api.ErrForm}, {q("0"+large, "1"), api.ErrForm}, {q("-0", large), api.ErrForm}, {q(large, ""), api.ErrForm},
}

// unary is the functions of one number, with other arguments that are allowed, and with such that are not.
var unary = []struct {
	name string
	call func(a api.Rat) outcome
}{
	{"Pow 2", func(a api.Rat) outcome { return number(ratio.Pow(a, 2)) }},
	{"Pow 21", func(a api.Rat) outcome { return number(ratio.Pow(a, 21)) }},
	{"Pow -1", func(a api.Rat) outcome { return number(ratio.Pow(a, -1)) }},
	{"Floor", func(a api.Rat) outcome { return text(ratio.Floor(a)) }},
	{"Nearest", func(a api.Rat) outcome { return text(ratio.Nearest(a)) }},
	{"Decimal 3", func(a api.Rat) outcome { return text(ratio.Decimal(a, 3)) }},
	{"Decimal -1", func(a api.Rat) outcome { return text(ratio.Decimal(a, -1)) }},
	{"Expand", func(a api.Rat) outcome { return two(ratio.Expand(a)) }},
	{"Print", func(a api.Rat) outcome { return text(ratio.Print(a)) }},
	{"Fraction", func(a api.Rat) outcome { return list(ratio.Fraction(a)) }},
	{"Near 5", func(a api.Rat) outcome { return number(ratio.Near(a, 5)) }},
	{"Near 0", func(a api.Rat) outcome { return number(ratio.Near(a, 0)) }},
}

// binary is the functions of two numbers, and what they have beside an error.
var binary = []struct {
	name string
	call func(a, b api.Rat) outcome
	none string
}{
	{"Compare", func(a, b api.Rat) outcome { return integer(ratio.Compare(a, b)) }, "0"},
	{"Add", func(a, b api.Rat) outcome { return number(ratio.Add(a, b)) }, ""},
	{"Sub", func(a, b api.Rat) outcome { return number(ratio.Sub(a, b)) }, ""},
	{"Mul", func(a, b api.Rat) outcome { return number(ratio.Mul(a, b)) }, ""},
	{"Div", func(a, b api.Rat) outcome { return number(ratio.Div(a, b)) }, ""},
	{"Between", func(a, b api.Rat) outcome { return number(ratio.Between(a, b)) }, ""},
}

// The form of a number comes before its length, and both before all other errors; the first number comes before the second one.
func TestInvalidNumbers(t *testing.T) {
	others := []api.Rat{frac(0, 1), frac(-3, 2), q("2", "4"), q(large, "1")}
	for _, x := range invalid {
		if e := ratio.Check(x.a); e != x.e {
			t.Errorf("Check(%s): got %d, want %d", shown(x.a), e, x.e)
		}
		for _, f := range unary {
			expect(t, f.name+" of "+shown(x.a), f.call(x.a), none(x.e))
		}
		for _, f := range binary {
			for _, b := range others {
				expect(t, f.name+" of "+shown(x.a)+", "+shown(b), f.call(x.a, b), outcome{f.none, x.e})
			}
			expect(t, f.name+" of 7, "+shown(x.a), f.call(frac(7, 1), x.a), outcome{f.none, x.e})
			expect(t, f.name+" of 0, "+shown(x.a), f.call(frac(0, 1), x.a), outcome{f.none, x.e})
		}
	}
}

// P2.1
func TestCheck(t *testing.T) {
	for _, a := range []api.Rat{frac(0, 1), frac(1, 1), frac(-1, 1), frac(-7, 3), q("1000000000", "999999999"), q("-1000000000000000000000", "3"), q(nines, "1"), q("-"+nines, "1"), q("1", nines), q("-1", ten(399)), q(nines, ten(399)), q("-"+nines, "2"), q(repeat("3", 400), "2")} {
		expect(t, "Check("+shown(a)+")", only(ratio.Check(a)), fine(""))
	}
}

// P2.1
func TestMake(t *testing.T) {
	for _, x := range []struct {
		p, d string
		want outcome
	}{
		{"10", "4", fine("5/2")}, {"10", "-4", fine("-5/2")}, {"-10", "4", fine("-5/2")}, {"-10", "-4", fine("5/2")}, {"0", "5", fine("0/1")}, {"0", "-5", fine("0/1")}, {"7", "1", fine("7/1")}, {"7", "-1", fine("-7/1")}, {"7", "7", fine("1/1")}, {"-7", "7", fine("-1/1")}, {"1", "7", fine("1/7")},
		{nines, nines, fine("1/1")}, {nines, "-" + nines, fine("-1/1")}, {nines, "3", fine(repeat("3", 400) + "/1")}, {"3", nines, fine("1/" + repeat("3", 400))}, {nines, "1", fine(nines + "/1")}, {nines, ten(399), fine(nines + "/" + ten(399))}, {ten(399), "-" + ten(390), fine("-" + ten(9) + "/1")}, {"0", nines, fine("0/1")}, {"1000000000000", "-1500000000000", fine("-2/3")},
		{"1", "0", none(api.ErrZero)}, {"0", "0", none(api.ErrZero)}, {"-" + nines, "0", none(api.ErrZero)},
		{"x", "0", none(api.ErrForm)}, {"1", "x", none(api.ErrForm)}, {"01", "1", none(api.ErrForm)}, {"1", "-0", none(api.ErrForm)}, {"", "1", none(api.ErrForm)}, {"1", "", none(api.ErrForm)}, {large, "0", none(api.ErrLarge)}, {large, "x", none(api.ErrLarge)}, {"x", large, none(api.ErrForm)}, {large, "10", none(api.ErrLarge)}, {"10", large, none(api.ErrLarge)}, {"1", "1/2", none(api.ErrForm)},
	} {
		expect(t, "Make("+brief(x.p)+", "+brief(x.d)+")", number(ratio.Make(x.p, x.d)), x.want)
	}
	for p := -30; p <= 30; p++ {
		for d := -30; d <= 30; d++ {
			want := none(api.ErrZero)
			switch {
			case d > 0:
				want = number(frac(p, d), api.OK)
			case d < 0:
				want = number(frac(-p, -d), api.OK)
			}
			expect(t, "Make", number(ratio.Make(strconv.Itoa(p), strconv.Itoa(d))), want)
		}
	}
}

// P2.1
func TestCompare(t *testing.T) {
	near := q(repeat("9", 399)+"8", nines)
	next := must[api.Rat](t, "Make")(ratio.Make(repeat("9", 399)+"7", repeat("9", 399)+"8"))
	ascending := []api.Rat{q("-"+nines, "1"), q("-"+nines, "2"), q("-1000000001", "1"), q("-1000000001", "2"), frac(-7, 3), frac(-1, 1), q("-"+near.Num, near.Den), q("-"+next.Num, next.Den), frac(-1, 2), frac(-1, 3), q("-1", "1000000000"), q("-1", nines), frac(0, 1), q("1", nines), q("1", ten(399)), q("1", "1000000001"), q("1", "1000000000"), frac(1, 3), frac(1, 2), frac(2, 3), next, near, frac(1, 1), q("1000000001", "1000000000"), frac(22, 7), q("1000000001", "2"), q("500000001", "1"), q("1000000001", "1"), q(nines, "2"), q(nines, "1")}
	for i, a := range ascending {
		for j, b := range ascending {
			want := "0"
			if i < j {
				want = "-1"
			} else if i > j {
				want = "1"
			}
			expect(t, "Compare("+shown(a)+", "+shown(b)+")", integer(ratio.Compare(a, b)), fine(want))
		}
	}
}

// P2.1 and P2.2, for all small numbers
func TestSmallNumbers(t *testing.T) {
	for p, d := range small(9) {
		for r, s := range small(9) {
			a, b := frac(p, d), frac(r, s)
			name := " of " + shown(a) + ", " + shown(b)
			order := 0
			if p*s < r*d {
				order = -1
			} else if p*s > r*d {
				order = 1
			}
			expect(t, "Compare"+name, integer(ratio.Compare(a, b)), fine(strconv.Itoa(order)))
			expect(t, "Add"+name, number(ratio.Add(a, b)), number(frac(p*s+r*d, d*s), api.OK))
			expect(t, "Sub"+name, number(ratio.Sub(a, b)), number(frac(p*s-r*d, d*s), api.OK))
			expect(t, "Mul"+name, number(ratio.Mul(a, b)), number(frac(p*r, d*s), api.OK))
			want := none(api.ErrZero)
			switch {
			case r > 0:
				want = number(frac(p*s, d*r), api.OK)
			case r < 0:
				want = number(frac(-p*s, -d*r), api.OK)
			}
			expect(t, "Div"+name, number(ratio.Div(a, b)), want)
		}
	}
}

// P2.2: numbers where what is on the way to the result is too large, and the result may be, or not.
func TestLongSums(t *testing.T) {
	half, odd := frac(1, 2), q(nines, "2")
	tiny := q("1", nines)
	for _, x := range []struct {
		a, b       api.Rat
		sum, minus outcome
	}{
		{odd, odd, fine(nines + "/1"), fine("0/1")}, {q(nines, "1"), frac(1, 1), none(api.ErrLarge), fine(repeat("9", 399) + "8/1")}, {q("-"+nines, "1"), frac(-1, 1), none(api.ErrLarge), fine("-" + repeat("9", 399) + "8/1")},
		{q(nines, "1"), q("-"+nines, "1"), fine("0/1"), none(api.ErrLarge)}, {q(nines, "1"), half, none(api.ErrLarge), none(api.ErrLarge)}, {q(repeat("4", 400), "1"), half, fine(repeat("8", 399) + "9/2"), fine(repeat("8", 399) + "7/2")},
		{tiny, tiny, fine("2/" + nines), fine("0/1")}, {tiny, frac(-1, 1), fine("-" + repeat("9", 399) + "8/" + nines), none(api.ErrLarge)}, {tiny, frac(1, 1), none(api.ErrLarge), fine("-" + repeat("9", 399) + "8/" + nines)},
		{tiny, q(repeat("9", 399)+"8", nines), fine("1/1"), fine("-" + repeat("9", 399) + "7/" + nines)}, {tiny, half, none(api.ErrLarge), none(api.ErrLarge)}, {tiny, frac(1, 3), fine(repeat("3", 399) + "4/" + nines), fine("-" + repeat("3", 399) + "2/" + nines)},
		{q("1", ten(200)), q("1", ten(399)), fine("1" + repeat("0", 198) + "1/" + ten(399)), fine(repeat("9", 199) + "/" + ten(399))}, {q("1", "2"+repeat("0", 399)), q("1", ten(399)), fine("3/2" + repeat("0", 399)), fine("-1/2" + repeat("0", 399))}, {q("1", ten(399)), frac(1, 11), none(api.ErrLarge), none(api.ErrLarge)}, {q("1", ten(399)), frac(1, 3), fine("1" + repeat("0", 398) + "3/3" + repeat("0", 399)), fine("-" + repeat("9", 398) + "7/3" + repeat("0", 399))},
	} {
		name := "(" + shown(x.a) + ", " + shown(x.b) + ")"
		expect(t, "Add"+name, number(ratio.Add(x.a, x.b)), x.sum)
		expect(t, "Add, turned,"+name, number(ratio.Add(x.b, x.a)), x.sum)
		expect(t, "Sub"+name, number(ratio.Sub(x.a, x.b)), x.minus)
	}
}

// P2.2: two numbers with denominators without a common divisor, and a sum that is 1 over the product of these. Numbers on the way have up to 600 digits.
func TestCancelledSums(t *testing.T) {
	seed := source(22)
	for count := 0; count < 25; {
		d, s := seed.digits(200), seed.digits(200)
		g, x, y, _ := whole.Gcd(s, d)
		if g != "1" {
			continue
		}
		count++
		// s x + d y is 1, and stays it if x grows by k d, and y becomes less by k s.
		k := seed.digits(199)
		far, _ := whole.Mul(k, d)
		p := must[string](t, "Add")(whole.Add(x, far))
		far, _ = whole.Mul(k, s)
		r := must[string](t, "Sub")(whole.Sub(y, far))
		product, _ := whole.Mul(d, s)
		a, b := q(p, d), q(r, s)
		expect(t, "Add("+shown(a)+", "+shown(b)+")", number(ratio.Add(a, b)), fine("1/"+product))
		back := sub(t, q("1", product), b)
		if back != a {
			t.Errorf("Sub: got %s, want %s", shown(back), shown(a))
		}
	}
}

// P2.2
func TestLongProducts(t *testing.T) {
	for _, x := range []struct {
		a, b              api.Rat
		product, quotient outcome
	}{
		{q(nines, "2"), q("2", nines), fine("1/1"), none(api.ErrLarge)}, {q(nines, "1"), frac(2, 1), none(api.ErrLarge), fine(nines + "/2")}, {q("1", nines), frac(1, 2), none(api.ErrLarge), fine("2/" + nines)}, {q(nines, "2"), q(nines, "2"), none(api.ErrLarge), fine("1/1")}, {q(nines, ten(399)), q("-"+ten(399), nines), fine("-1/1"), none(api.ErrLarge)},
		{q(ten(200), "1"), q(ten(199), "1"), fine(ten(399) + "/1"), fine("10/1")}, {q(ten(200), "1"), q(ten(200), "1"), none(api.ErrLarge), fine("1/1")}, {q("1", ten(200)), q("-1", ten(199)), fine("-1/" + ten(399)), fine("-1/10")}, {q("1", ten(200)), q("1", ten(200)), none(api.ErrLarge), fine("1/1")}, {frac(0, 1), q(nines, "2"), fine("0/1"), fine("0/1")}, {q(nines, "2"), frac(0, 1), fine("0/1"), none(api.ErrZero)}, {q(nines, "1"), frac(-1, 1), fine("-" + nines + "/1"), fine("-" + nines + "/1")},
		{q(ten(300), "7"), q("7", ten(299)), fine("10/1"), none(api.ErrLarge)}, {q("999999999", "1000000000"), q("1000000000", "999999999"), fine("1/1"), fine("999999998000000001/1000000000000000000")}, {q("-999999999", "1"), q("999999999", "1"), fine("-999999998000000001/1"), fine("-1/1")},
	} {
		name := "(" + shown(x.a) + ", " + shown(x.b) + ")"
		expect(t, "Mul"+name, number(ratio.Mul(x.a, x.b)), x.product)
		expect(t, "Mul, turned,"+name, number(ratio.Mul(x.b, x.a)), x.product)
		expect(t, "Div"+name, number(ratio.Div(x.a, x.b)), x.quotient)
	}
	for _, a := range []api.Rat{frac(0, 1), frac(-1, 2), q(nines, "1")} {
		expect(t, "Div("+shown(a)+", 0)", number(ratio.Div(a, frac(0, 1))), none(api.ErrZero))
	}
}

// P2.2
func TestPow(t *testing.T) {
	for _, x := range []struct {
		a    api.Rat
		n    int
		want outcome
	}{
		{frac(2, 3), 3, fine("8/27")}, {frac(-2, 3), 3, fine("-8/27")}, {frac(-2, 3), 2, fine("4/9")}, {frac(-2, 3), -2, fine("9/4")}, {frac(-2, 3), -3, fine("-27/8")}, {frac(-1, 2), -3, fine("-8/1")}, {frac(2, 3), 0, fine("1/1")}, {frac(-2, 3), 1, fine("-2/3")}, {frac(2, 3), -1, fine("3/2")}, {frac(-2, 3), -1, fine("-3/2")}, {frac(5, 1), -2, fine("1/25")},
		{frac(0, 1), 0, fine("1/1")}, {frac(0, 1), 1, fine("0/1")}, {frac(0, 1), 20, fine("0/1")}, {frac(0, 1), -1, none(api.ErrZero)}, {frac(0, 1), -20, none(api.ErrZero)}, {frac(0, 1), -21, none(api.ErrValue)}, {frac(0, 1), 21, none(api.ErrValue)}, {frac(0, 1), minInt, none(api.ErrValue)}, {frac(1, 2), maxInt, none(api.ErrValue)}, {frac(1, 1), 21, none(api.ErrValue)}, {frac(1, 1), -21, none(api.ErrValue)},
		{frac(10, 1), 20, fine(ten(20) + "/1")}, {frac(-1, 10), 20, fine("1/" + ten(20))}, {frac(-1, 10), -19, fine("-" + ten(19) + "/1")}, {q(ten(19), "1"), 20, fine(ten(380) + "/1")}, {q(ten(20), "1"), 20, none(api.ErrLarge)}, {q("1", ten(20)), 20, none(api.ErrLarge)}, {q("1", ten(20)), -20, none(api.ErrLarge)}, {q("3", ten(20)), -20, none(api.ErrLarge)}, {q(nines, "2"), 1, fine(nines + "/2")}, {q(nines, "2"), -1, fine("2/" + nines)}, {q("-"+nines, "2"), -1, fine("-2/" + nines)}, {q(nines, "2"), 0, fine("1/1")}, {q(nines, "2"), 2, none(api.ErrLarge)}, {q(nines, "2"), -2, none(api.ErrLarge)},
	} {
		expect(t, "Pow("+shown(x.a)+", "+strconv.Itoa(x.n)+")", number(ratio.Pow(x.a, x.n)), x.want)
	}
	for p, d := range small(5) {
		a, power := frac(p, d), frac(1, 1)
		for n := range 21 {
			expect(t, "Pow("+shown(a)+", "+strconv.Itoa(n)+")", number(ratio.Pow(a, n)), number(power, api.OK))
			if p != 0 {
				expect(t, "Pow("+shown(a)+", "+strconv.Itoa(-n)+")", number(ratio.Pow(a, -n)), number(ratio.Div(frac(1, 1), power)))
			}
			power = mul(t, power, a)
		}
	}
}

// P2.3
func TestWholeNumbers(t *testing.T) {
	for _, x := range []struct {
		a              api.Rat
		floor, nearest string
	}{
		{frac(0, 1), "0", "0"}, {frac(7, 1), "7", "7"}, {frac(-7, 1), "-7", "-7"}, {frac(1, 2), "0", "0"}, {frac(-1, 2), "-1", "0"}, {frac(3, 2), "1", "2"}, {frac(-3, 2), "-2", "-2"}, {frac(5, 2), "2", "2"}, {frac(-5, 2), "-3", "-2"}, {frac(7, 2), "3", "4"}, {frac(-7, 2), "-4", "-4"}, {frac(1, 3), "0", "0"}, {frac(-1, 3), "-1", "0"}, {frac(2, 3), "0", "1"}, {frac(-2, 3), "-1", "-1"}, {frac(8, 3), "2", "3"}, {frac(49, 100), "0", "0"}, {frac(51, 100), "0", "1"}, {frac(-51, 100), "-1", "-1"},
		{q(nines, "1"), nines, nines}, {q("-"+nines, "1"), "-" + nines, "-" + nines}, {q(nines, "2"), "4" + repeat("9", 399), "5" + repeat("0", 399)}, {q("-"+nines, "2"), "-5" + repeat("0", 399), "-5" + repeat("0", 399)}, {q("1", nines), "0", "0"}, {q("-1", nines), "-1", "0"}, {q(repeat("9", 399)+"8", nines), "0", "1"}, {q("4"+repeat("9", 399), nines), "0", "0"}, {q("5"+repeat("0", 399), nines), "0", "1"}, {q("-4"+repeat("9", 399), nines), "-1", "0"}, {q("-5"+repeat("0", 399), nines), "-1", "-1"}, {q("1000000000000000000001", "2"), "500000000000000000000", "500000000000000000000"}, {q("1000000000000000000003", "2"), "500000000000000000001", "500000000000000000002"},
	} {
		expect(t, "Floor("+shown(x.a)+")", text(ratio.Floor(x.a)), fine(x.floor))
		expect(t, "Nearest("+shown(x.a)+")", text(ratio.Nearest(x.a)), fine(x.nearest))
	}
}

// P2.4
func TestDecimal(t *testing.T) {
	for _, x := range []struct {
		a      api.Rat
		places int
		want   string
	}{
		{frac(0, 1), 0, "0"}, {frac(0, 1), 1, "0.0"}, {frac(0, 1), 3, "0.000"}, {frac(7, 1), 0, "7"}, {frac(-7, 1), 2, "-7.00"}, {frac(1, 2), 0, "0"}, {frac(-1, 2), 0, "0"}, {frac(3, 2), 0, "2"}, {frac(-3, 2), 0, "-2"}, {frac(5, 2), 0, "2"}, {frac(-5, 2), 0, "-2"}, {frac(25, 2), 0, "12"}, {frac(1, 3), 4, "0.3333"}, {frac(2, 3), 4, "0.6667"}, {frac(-2, 3), 4, "-0.6667"}, {frac(1, 8), 2, "0.12"}, {frac(3, 8), 2, "0.38"}, {frac(-3, 8), 2, "-0.38"}, {frac(5, 8), 2, "0.62"}, {frac(-1, 8), 3, "-0.125"}, {frac(1, 8), 5, "0.12500"}, {frac(999, 1000), 2, "1.00"}, {frac(-999, 1000), 2, "-1.00"}, {frac(99, 10), 0, "10"}, {frac(1999, 2), 0, "1000"}, {frac(1, 1000), 2, "0.00"}, {frac(-1, 1000), 2, "0.00"}, {frac(1, 200), 2, "0.00"}, {frac(-1, 200), 2, "0.00"}, {frac(3, 200), 2, "0.02"}, {frac(-3, 200), 2, "-0.02"}, {frac(1, 100), 2, "0.01"}, {frac(-1, 100), 2, "-0.01"}, {frac(12345, 100), 1, "123.4"}, {frac(12355, 100), 1, "123.6"}, {frac(22, 7), 5, "3.14286"},
		{frac(1, 3), 200, "0." + repeat("3", 200)}, {frac(-2, 3), 200, "-0." + repeat("6", 199) + "7"}, {frac(1, 1), 200, "1." + repeat("0", 200)}, {q(nines, "1"), 200, nines + "." + repeat("0", 200)}, {q("-"+nines, "1"), 0, "-" + nines}, {q("-"+nines, "2"), 0, "-5" + repeat("0", 399)}, {q("-"+nines, "2"), 1, "-4" + repeat("9", 399) + ".5"}, {q("1", nines), 200, "0." + repeat("0", 200)}, {q("-1", nines), 200, "0." + repeat("0", 200)}, {q(repeat("9", 399)+"8", nines), 200, "1." + repeat("0", 200)}, {q("1", ten(200)), 200, "0." + repeat("0", 199) + "1"}, {q("1", "2"+repeat("0", 200)), 200, "0." + repeat("0", 200)}, {q("3", "2"+repeat("0", 200)), 200, "0." + repeat("0", 199) + "2"},
	} {
		expect(t, "Decimal("+shown(x.a)+", "+strconv.Itoa(x.places)+")", text(ratio.Decimal(x.a, x.places)), fine(x.want))
	}
	for _, places := range []int{-1, -200, minInt, 201, 1000, maxInt} {
		for _, a := range []api.Rat{frac(0, 1), frac(-1, 3), q(nines, "1")} {
			expect(t, "Decimal("+shown(a)+", "+strconv.Itoa(places)+")", text(ratio.Decimal(a, places)), none(api.ErrValue))
		}
	}
}

// P2.4, by dividing small numbers: how many units of the last place they are is rounded with machine numbers.
func TestDecimalSmall(t *testing.T) {
	for p, d := range small(16) {
		for places, unit := 0, 1; places <= 3; places, unit = places+1, unit*10 {
			n := max(p, -p) * unit
			units := n / d
			if rest := 2 * (n % d); rest > d || rest == d && units%2 == 1 {
				units++
			}
			want := strconv.Itoa(units / unit)
			if places > 0 {
				want += "." + strconv.Itoa(unit + units%unit)[1:]
			}
			if p < 0 && units > 0 {
				want = "-" + want
			}
			expect(t, "Decimal("+shown(frac(p, d))+", "+strconv.Itoa(places)+")", text(ratio.Decimal(frac(p, d), places)), fine(want))
		}
	}
}

// P2.5
func TestExpand(t *testing.T) {
	zeros := repeat("0", 199)
	for _, x := range []struct {
		a             api.Rat
		front, period string
	}{
		{frac(0, 1), "0", ""}, {frac(12, 1), "12", ""}, {frac(-12, 1), "-12", ""}, {frac(1, 2), "0.5", ""}, {frac(-1, 2), "-0.5", ""}, {frac(5, 4), "1.25", ""}, {frac(-7, 4), "-1.75", ""}, {frac(1, 3), "0.", "3"}, {frac(-1, 3), "-0.", "3"}, {frac(-4, 3), "-1.", "3"}, {frac(1, 6), "0.1", "6"}, {frac(-1, 6), "-0.1", "6"}, {frac(1, 7), "0.", "142857"}, {frac(22, 7), "3.", "142857"}, {frac(1, 9), "0.", "1"}, {frac(1, 11), "0.", "09"}, {frac(1, 12), "0.08", "3"}, {frac(-7, 12), "-0.58", "3"}, {frac(5, 14), "0.3", "571428"}, {frac(1, 99), "0.", "01"}, {frac(1, 90), "0.0", "1"}, {frac(12, 11), "1.", "09"}, {frac(1, 1000), "0.001", ""}, {frac(1001, 1000), "1.001", ""}, {frac(1, 700), "0.00", "142857"}, {frac(100, 7), "14.", "285714"}, {frac(1, 13), "0.", "076923"},
		{q(nines, "1"), nines, ""}, {q("-"+nines, "2"), "-4" + repeat("9", 399) + ".5", ""}, {q("1", ten(200)), "0." + zeros + "1", ""}, {q("-1", ten(200)), "-0." + zeros + "1", ""}, {q("1", repeat("9", 200)), "0.", zeros + "1"}, {q("1", repeat("9", 199)+"0"), "0.0", repeat("0", 198) + "1"}, {q("1", "9"+zeros), "0." + zeros, "1"},
	} {
		front, period, e := ratio.Expand(x.a)
		if front != x.front || period != x.period || e != api.OK {
			t.Errorf("Expand(%s): got %s and %s, error %d; want %s and %s", shown(x.a), brief(front), brief(period), e, brief(x.front), brief(x.period))
		}
	}
	for _, a := range []api.Rat{q("1", ten(201)), q("1", repeat("9", 201)), q("-1", repeat("9", 200)+"0"), q("1", "9"+repeat("0", 200)), q("1", nines), q(nines, ten(399)), q("1", ten(399)), frac(1, 1000003), frac(-1, 229), frac(1, 223)} {
		expect(t, "Expand("+shown(a)+")", two(ratio.Expand(a)), none(api.ErrLarge))
	}
}

// P2.5, for all small denominators: the front has as many places as the denominator has factors 2 or 5, and the period as many as the order of 10 for the rest of it.
func TestExpandLengths(t *testing.T) {
	for d := 1; d <= 700; d++ {
		twos, fives, rest := 0, 0, d
		for ; rest%2 == 0; rest /= 2 {
			twos++
		}
		for ; rest%5 == 0; rest /= 5 {
			fives++
		}
		before, order := max(twos, fives), 0
		for power := 1; rest > 1 && (order == 0 || power != 1); order++ {
			power = power * 10 % rest
		}
		front, period, e := ratio.Expand(frac(1, d))
		if before+order > 200 {
			expect(t, "Expand(1/"+strconv.Itoa(d)+")", outcome{front + period, e}, none(api.ErrLarge))
			continue
		}
		_, places, _ := strings.Cut(front, ".")
		if e != api.OK || len(places) != before || len(period) != order || strings.Contains(front, ".") != (d > 1) {
			t.Errorf("Expand(1/%d): got %s and %s, error %d; want %d places and a period of %d", d, front, period, e, before, order)
		}
		for i, digits, left := 0, places+period, 1; i < len(digits); i++ {
			left *= 10
			if int(digits[i]-'0') != left/d {
				t.Errorf("Expand(1/%d): got %s and %s", d, front, period)
				break
			}
			left %= d
		}
	}
}

// P2.6
func TestPrint(t *testing.T) {
	for _, x := range []struct {
		a    api.Rat
		want string
	}{{frac(0, 1), "0"}, {frac(4, 1), "4"}, {frac(-4, 1), "-4"}, {frac(-3, 2), "-3/2"}, {frac(1, 10), "1/10"}, {q(nines, "2"), nines + "/2"}, {q("-"+nines, ten(399)), "-" + nines + "/" + ten(399)}, {q("-"+nines, "1"), "-" + nines}} {
		expect(t, "Print("+shown(x.a)+")", text(ratio.Print(x.a)), fine(x.want))
	}
}

// P2.6
func TestParse(t *testing.T) {
	for _, x := range []struct{ s, want string }{
		{"0", "0/1"}, {"7", "7/1"}, {"-7", "-7/1"}, {"10", "10/1"}, {"1/2", "1/2"}, {"-7/2", "-7/2"}, {"10/3", "10/3"}, {"1/10", "1/10"}, {nines, nines + "/1"}, {"-" + nines + "/2", "-" + nines + "/2"}, {"1/" + nines, "1/" + nines},
		{"0.5", "1/2"}, {"0.50", "1/2"}, {"-0.5", "-1/2"}, {"0.0", "0/1"}, {"-0.0", "0/1"}, {"-0.000", "0/1"}, {"1.0", "1/1"}, {"-1.0", "-1/1"}, {"10.0", "10/1"}, {"-12.125", "-97/8"}, {"3.25", "13/4"}, {"0.001", "1/1000"}, {"-0.01", "-1/100"}, {"100.001", "100001/1000"}, {"0.125", "1/8"}, {"123456789.987654321", "123456789987654321/1000000000"},
		{"0." + repeat("0", 199) + "1", "1/" + ten(200)}, {"0." + repeat("0", 200), "0/1"}, {"1." + repeat("0", 200), "1/1"}, {"0." + repeat("9", 200), repeat("9", 200) + "/" + ten(200)}, {repeat("4", 400) + ".5", repeat("8", 399) + "9/2"}, {nines + ".0", nines + "/1"}, {"-" + nines + "." + repeat("0", 200), "-" + nines + "/1"}, {repeat("9", 200) + "." + repeat("9", 200), nines + "/" + ten(200)},
	} {
		expect(t, "Parse("+brief(x.s)+")", number(ratio.Parse(x.s)), fine(x.want))
	}
}

// P2.6
func TestParseErrors(t *testing.T) {
	for _, s := range []string{
		"", "-", "/", ".", "-/", "-.", "--1", "+1", "-0", "00", "01", "-01", "007", "1-", " 1", "1 ", "1\n", "\t1", "x", "1x", "1e3", "1,5", "1_0", "0x1", "\x00", "\xff", "\u0661", "\uff11", "\u00bd",
		"/2", "1/", "-/2", "1/0", "0/1", "7/1", "-7/1", "0/5", "-0/5", "2/4", "6/3", "-6/4", "3/3", "2/-3", "-2/-3", "1/+2", "1/02", "01/2", "1//2", "1/2/3", "1/2/", "/1/2", "1/ 2", "1 /2", "1/x", "x/2", "1/2x", "1/-", "1/00", nines + "/3", nines + "/" + nines, large + "/1", large + "/0", large + "/x", "x/" + large, "0" + large, "-0/" + large,
		".5", "-.5", "1.", "-1.", "0.", "-0.", "01.5", "00.5", "-00.5", "1.2.3", "1..2", "--1.5", "+1.5", "1.-5", "1.5-", "1.5 ", " 1.5", "1.5/2", "1/2.5", "1.x", "x.5", "1.5x", "1.5e2", "1.\u0661", "0." + repeat("1", 201), "-0." + repeat("0", 201), nines + "9." + repeat("0", 201), nines + "9.", "0" + nines + ".5", nines + "9.5x",
	} {
		expect(t, "Parse("+brief(s)+")", number(ratio.Parse(s)), none(api.ErrForm))
	}
	for _, s := range []string{large, "-" + large, large + "/3", "1/" + large, large + "/" + large, large + ".0", large + "." + repeat("0", 200), "-" + large + ".5", nines + ".5", "-" + nines + ".1", repeat("1", 201) + "." + repeat("1", 200), repeat("5", 400) + ".5", repeat("8", 3000) + ".25"} {
		expect(t, "Parse("+brief(s)+")", number(ratio.Parse(s)), none(api.ErrLarge))
	}
}

// P2.6: every text of up to four of the characters that numbers have.
func TestParseShort(t *testing.T) {
	const all = "-./012"
	texts := []string{""}
	for i := 0; i < len(texts); i++ {
		s := texts[i]
		if len(s) < 4 {
			for _, c := range all {
				texts = append(texts, s+string(c))
			}
		}
		expect(t, "Parse("+s+")", number(ratio.Parse(s)), parsed(s))
	}
}

// parsed says what Parse has to return of a short text.
func parsed(s string) outcome {
	plain := func(s string) bool {
		_, err := strconv.Atoi(s)
		return err == nil && (s == "0" || s[0] != '0') && s[0] != '-'
	}
	digits, minus := strings.CutPrefix(s, "-")
	sign := 1
	if minus {
		sign = -1
	}
	if front, places, point := strings.Cut(digits, "."); point {
		count, err := strconv.Atoi("1" + places)
		if !plain(front) || places == "" || err != nil {
			return none(api.ErrForm)
		}
		unit := 1
		for range places {
			unit *= 10
		}
		n, _ := strconv.Atoi(front)
		return number(frac(sign*(n*unit+count-unit), unit), api.OK)
	}
	num, den, slash := strings.Cut(digits, "/")
	if !plain(num) || minus && num == "0" || slash && (!plain(den) || den == "1" || den == "0") {
		return none(api.ErrForm)
	}
	if !slash {
		den = "1"
	}
	p, _ := strconv.Atoi(num)
	d, _ := strconv.Atoi(den)
	if a := frac(sign*p, d); a.Den == den {
		return number(a, api.OK)
	}
	return none(api.ErrForm)
}

// P2.7
func TestFraction(t *testing.T) {
	for _, x := range []struct {
		a    api.Rat
		want string
	}{
		{frac(0, 1), "0"}, {frac(5, 1), "5"}, {frac(-5, 1), "-5"}, {frac(1, 2), "0 2"}, {frac(-1, 2), "-1 2"}, {frac(3, 2), "1 2"}, {frac(-3, 2), "-2 2"}, {frac(2, 3), "0 1 2"}, {frac(-7, 3), "-3 1 2"}, {frac(649, 200), "3 4 12 4"}, {frac(8, 5), "1 1 1 2"}, {frac(355, 113), "3 7 16"}, {frac(-355, 113), "-4 1 6 16"},
		{q(nines, "1"), nines}, {q("1", nines), "0 " + nines}, {q("-1", nines), "-1 1 " + repeat("9", 399) + "8"}, {q(nines, ten(399)), "9 1 " + repeat("9", 399)}, {q("-"+nines, "2"), "-5" + repeat("0", 399) + " 2"},
	} {
		expect(t, "Fraction("+shown(x.a)+")", list(ratio.Fraction(x.a)), fine(x.want))
		if strings.Count(x.want, " ") < 200 {
			expect(t, "OfFraction("+brief(x.want)+")", number(ratio.OfFraction(strings.Fields(x.want))), number(x.a, api.OK))
		}
	}
	// Neighbours of Fibonacci's numbers have the most terms, far more than OfFraction takes.
	p, d, count := "1", "2", 1
	for len(d) < 400 {
		sum := must[string](t, "Add")(whole.Add(p, d))
		p, d, count = d, sum, count+1
	}
	want := "0 " + repeat("1 ", count-1) + "2"
	expect(t, "Fraction of Fibonacci's numbers", list(ratio.Fraction(q(p, d))), fine(want))
	expect(t, "OfFraction of Fibonacci's numbers", number(ratio.OfFraction(strings.Fields(want))), none(api.ErrMany))
}

// P2.7
func TestOfFraction(t *testing.T) {
	ones := strings.Fields(repeat("1 ", 201))
	long := strings.Fields(repeat(nines+" ", 201))
	far := "1" + repeat("0", 398) + "1"
	for _, x := range []struct {
		l    []string
		want outcome
	}{
		{[]string{"-5"}, fine("-5/1")}, {[]string{"0"}, fine("0/1")}, {[]string{"2", "1"}, fine("3/1")}, {[]string{"-1", "1"}, fine("0/1")}, {[]string{"0", "1"}, fine("1/1")}, {[]string{"1", "1", "1"}, fine("3/2")}, {[]string{"-3", "1", "2"}, fine("-7/3")}, {[]string{"0", "2", "1"}, fine("1/3")}, {[]string{"-7", "3", "5"}, fine("-107/16")},
		{nil, none(api.ErrFew)}, {ones, none(api.ErrMany)}, {long, none(api.ErrMany)}, {append([]string{"x"}, ones...), none(api.ErrMany)}, {ones[:200], fine("453973694165307953197296969697410619233826/280571172992510140037611932413038677189525")},
		{[]string{"x"}, none(api.ErrForm)}, {[]string{""}, none(api.ErrForm)}, {[]string{"1", "01"}, none(api.ErrForm)}, {[]string{"1", "1/2"}, none(api.ErrForm)}, {[]string{"0", "0", "x"}, none(api.ErrForm)}, {[]string{"0", "-1", large}, none(api.ErrLarge)}, {[]string{large, "x"}, none(api.ErrLarge)}, {[]string{"x", large}, none(api.ErrForm)}, {[]string{large, "0"}, none(api.ErrLarge)},
		{[]string{"0", "0"}, none(api.ErrValue)}, {[]string{"3", "-1"}, none(api.ErrValue)}, {[]string{"3", "1", "0"}, none(api.ErrValue)}, {[]string{"3", "0", "1"}, none(api.ErrValue)}, {[]string{"3", nines, "-" + nines}, none(api.ErrValue)}, {[]string{nines, nines, "0"}, none(api.ErrValue)},
		{[]string{nines}, fine(nines + "/1")}, {[]string{"-" + nines}, fine("-" + nines + "/1")}, {[]string{"0", nines}, fine("1/" + nines)}, {[]string{nines, "1"}, none(api.ErrLarge)}, {[]string{"-" + nines, "1"}, fine("-" + repeat("9", 399) + "8/1")}, {[]string{"0", nines, nines}, none(api.ErrLarge)}, {[]string{"0", nines, "1"}, none(api.ErrLarge)}, {[]string{nines, "2"}, none(api.ErrLarge)}, {[]string{"-1", nines, "1"}, none(api.ErrLarge)}, {long[:200], none(api.ErrLarge)}, {[]string{"0", "1", nines}, none(api.ErrLarge)}, {[]string{"0", "1", repeat("9", 399)}, fine(repeat("9", 399) + "/" + ten(399))},
		{[]string{"-10", ten(399)}, fine("-" + nines + "/" + ten(399))}, {[]string{"10", ten(399)}, none(api.ErrLarge)}, {[]string{"-9", far}, fine("-9" + repeat("0", 398) + "8/" + far)}, {[]string{"-11", ten(399)}, none(api.ErrLarge)},
	} {
		name := ""
		for i, term := range x.l {
			if i < 5 {
				name += brief(term) + " "
			}
		}
		expect(t, "OfFraction("+name+")", number(ratio.OfFraction(x.l)), x.want)
	}
}

// precedes returns whether p/d, in lowest terms, is simpler than r/s.
func precedes(p, d, r, s int) bool {
	switch {
	case d != s:
		return d < s
	case max(p, -p) != max(r, -r):
		return max(p, -p) < max(r, -r)
	}
	return p > r
}

// P2.8, by trying all numbers that are simple.
func TestBetweenSmall(t *testing.T) {
	for p, d := range small(7) {
		for r, s := range small(7) {
			a, b := frac(p, d), frac(r, s)
			name := "Between(" + shown(a) + ", " + shown(b) + ")"
			if p*s >= r*d {
				expect(t, name, number(ratio.Between(a, b)), none(api.ErrOrder))
				continue
			}
			var want api.Rat
			best := false
			u, v := 0, 0
			for y := 1; y <= d+s && !best; y++ {
				for x := -7 * y; x <= 7*y; x++ {
					if p*y < x*d && x*s < r*y && (!best || precedes(x, y, u, v)) {
						u, v, best = x, y, true
						want = frac(x, y)
					}
				}
			}
			expect(t, name, number(ratio.Between(a, b)), number(want, api.OK))
		}
	}
}

// P2.8
func TestBetween(t *testing.T) {
	for _, x := range []struct {
		a, b api.Rat
		want outcome
	}{
		{frac(0, 1), frac(1, 1), fine("1/2")}, {frac(-1, 1), frac(0, 1), fine("-1/2")}, {frac(0, 1), frac(2, 1), fine("1/1")}, {frac(-2, 1), frac(0, 1), fine("-1/1")}, {frac(5, 1), frac(9, 1), fine("6/1")}, {frac(-9, 1), frac(-5, 1), fine("-6/1")}, {frac(-1, 1000), frac(9, 1), fine("0/1")}, {frac(0, 1), frac(1, 10), fine("1/11")}, {frac(-1, 10), frac(0, 1), fine("-1/11")}, {frac(3, 1), frac(22, 7), fine("25/8")}, {frac(314, 100), frac(315, 100), fine("22/7")}, {frac(-315, 100), frac(-314, 100), fine("-22/7")}, {frac(3, 10), frac(1, 3), fine("4/13")}, {frac(999, 1000), frac(1, 1), fine("1000/1001")}, {frac(1, 1), frac(1001, 1000), fine("1002/1001")},
		{q(repeat("9", 399)+"8", "1"), q(nines, "1"), none(api.ErrLarge)}, {q("-"+nines, "1"), q(nines, "1"), fine("0/1")}, {frac(0, 1), q("1", nines), none(api.ErrLarge)}, {frac(0, 1), q("1", repeat("9", 399)), fine("1/" + ten(399))}, {q("-1", repeat("9", 399)), frac(0, 1), fine("-1/" + ten(399))}, {q("1", nines), frac(1, 1), fine("1/2")}, {q("1", nines), q("1", repeat("9", 399)+"8"), none(api.ErrLarge)}, {q("1", nines), q("1", repeat("9", 399)+"7"), fine("1/" + repeat("9", 399) + "8")}, {q("-1", repeat("9", 399)+"7"), q("-1", nines), fine("-1/" + repeat("9", 399) + "8")}, {q(repeat("9", 399), "1"), q(ten(399), "1"), fine("1" + repeat("9", 399) + "/2")},
		{frac(1, 2), frac(1, 2), none(api.ErrOrder)}, {frac(1, 2), frac(1, 3), none(api.ErrOrder)}, {frac(0, 1), frac(0, 1), none(api.ErrOrder)}, {q(nines, "1"), q(repeat("9", 399)+"8", "1"), none(api.ErrOrder)}, {q(nines, "2"), q(nines, "2"), none(api.ErrOrder)},
	} {
		expect(t, "Between("+shown(x.a)+", "+shown(x.b)+")", number(ratio.Between(x.a, x.b)), x.want)
	}
	// Of neighbours in the tree of fractions, the sums of both lists of terms are between them, and simplest.
	p, d, r, s := "1", "2", "1", "1"
	for len(d) < 399 {
		d2, p2 := must[string](t, "Add")(whole.Add(d, s)), must[string](t, "Add")(whole.Add(p, r))
		if len(d)%57 == 0 {
			a, b := q(p, d), q(r, s)
			if compare(t, a, b) > 0 {
				a, b = b, a
			}
			expect(t, "Between("+shown(a)+", "+shown(b)+")", number(ratio.Between(a, b)), fine(p2+"/"+d2))
		}
		p, d, r, s = p2, d2, p, d
	}
}

// P2.8, by trying all numbers that are allowed.
func TestNearSmall(t *testing.T) {
	for p, d := range small(13) {
		for most := 1; most <= 14; most++ {
			u, v := 0, 0
			for y := 1; y <= most; y++ {
				for x := -13*y - 1; x <= 13*y+1; x++ {
					if frac(x, y) != q(strconv.Itoa(x), strconv.Itoa(y)) {
						continue
					}
					// How far x/y and u/v are away from p/d, both multiplied by d v y.
					far, least := max(x*d-p*y, p*y-x*d)*v, max(u*d-p*v, p*v-u*d)*y
					if v == 0 || far < least || far == least && precedes(x, y, u, v) {
						u, v = x, y
					}
				}
			}
			expect(t, "Near("+shown(frac(p, d))+", "+strconv.Itoa(most)+")", number(ratio.Near(frac(p, d), most)), number(frac(u, v), api.OK))
		}
	}
}

// P2.8
func TestNear(t *testing.T) {
	pi := must[api.Rat](t, "Parse")(ratio.Parse("3.14159265358979323846264338327950288419716939937510"))
	for _, x := range []struct {
		a    api.Rat
		most int
		want outcome
	}{
		{frac(314159, 100000), 7, fine("22/7")}, {frac(314159, 100000), 113, fine("355/113")}, {frac(314159, 100000), 6, fine("19/6")}, {frac(314159, 100000), 100000, fine("314159/100000")}, {pi, 112, fine("333/106")}, {pi, 113, fine("355/113")}, {pi, 33101, fine("103638/32989")}, {pi, 33102, fine("103993/33102")}, {pi, 300000, fine("833719/265381")}, {pi, 1000000, fine("3126535/995207")}, {frac(-1, 3), 2, fine("-1/2")}, {frac(1, 4), 3, fine("1/3")}, {frac(-1, 4), 3, fine("-1/3")}, {frac(1, 6), 5, fine("1/5")}, {frac(1, 2), 1, fine("0/1")}, {frac(-1, 2), 1, fine("0/1")}, {frac(3, 2), 1, fine("1/1")}, {frac(-3, 2), 1, fine("-1/1")}, {frac(7, 2), 2, fine("7/2")}, {frac(5, 1), 1, fine("5/1")}, {frac(0, 1), 1000000, fine("0/1")}, {frac(1, 1000000), 1000000, fine("1/1000000")}, {frac(1, 1000001), 1000000, fine("1/1000000")}, {frac(1, 2000001), 1000000, fine("0/1")}, {frac(1, 2000000), 1000000, fine("0/1")}, {frac(1, 1999999), 1000000, fine("1/1000000")},
		{q(nines, "1"), 1, fine(nines + "/1")}, {q("-"+nines, "2"), 2, fine("-" + nines + "/2")}, {q("-"+nines, "2"), 1, fine("-4" + repeat("9", 399) + "/1")}, {q(nines, "2"), 1, fine("4" + repeat("9", 399) + "/1")}, {q("1", nines), 1000000, fine("0/1")}, {q("-1", nines), 1, fine("0/1")}, {q(repeat("9", 399)+"8", nines), 1000000, fine("1/1")}, {q("-"+repeat("9", 399)+"8", nines), 7, fine("-1/1")},
		{frac(1, 2), 0, none(api.ErrValue)}, {frac(1, 2), -1, none(api.ErrValue)}, {frac(1, 2), minInt, none(api.ErrValue)}, {frac(1, 2), 1000001, none(api.ErrValue)}, {frac(1, 2), maxInt, none(api.ErrValue)}, {frac(5, 1), 0, none(api.ErrValue)},
	} {
		expect(t, "Near("+shown(x.a)+", "+strconv.Itoa(x.most)+")", number(ratio.Near(x.a, x.most)), x.want)
	}
}
