package whole_test

import (
	"slices"
	"strconv"
	"strings"
	"testing"

	"metewand/api"
	"metewand/whole"
)

var (
	nines = repeat("9", 400) // the greatest valid number
	large = ten(400)         // the least number that is too large
)

// invalid is texts that are no valid numbers, with their errors.
var invalid = []struct {
	text string
	e    api.Errno
}{
	{"", api.ErrForm}, {"-", api.ErrForm}, {"--1", api.ErrForm}, {"+1", api.ErrForm}, {"1-", api.ErrForm},
	{"007", api.ErrForm}, {"00", api.ErrForm}, {"-0", api.ErrForm}, {"-00", api.ErrForm}, {"-01", api.ErrForm}, {"01", api.ErrForm},
	{"1.5", api.ErrForm}, {"1e3", api.ErrForm}, {"1_000", api.ErrForm}, {"1,000", api.ErrForm}, {"0x1", api.ErrForm}, {"1/2", api.ErrForm},
	{" 1", api.ErrForm}, {"1 ", api.ErrForm}, {"1\n", api.ErrForm}, {"\t1", api.ErrForm}, {"- 1", api.ErrForm}, {"\x00", api.ErrForm}, {"1\x00", api.ErrForm},
	{"a", api.ErrForm}, {"1a", api.ErrForm}, {"f", api.ErrForm}, {"/", api.ErrForm}, {":", api.ErrForm}, {"12:", api.ErrForm}, {"1/", api.ErrForm},
	{"\u0661", api.ErrForm}, {"\uff11", api.ErrForm}, {"\u22121", api.ErrForm}, {"1\u00b2", api.ErrForm}, {"\xff", api.ErrForm}, {"1\xc0\xb1", api.ErrForm},
	{repeat("9", 401), api.ErrLarge}, {"-" + repeat("9", 401), api.ErrLarge}, {large, api.ErrLarge}, {"-" + large, api.ErrLarge}, {repeat("1", 5000), api.ErrLarge},
	{"0" + nines, api.ErrForm}, {"-0" + nines, api.ErrForm}, {repeat("0", 401), api.ErrForm}, {repeat("9", 401) + "x", api.ErrForm}, {"x" + repeat("9", 401), api.ErrForm}, {repeat("9", 200) + "-" + repeat("9", 300), api.ErrForm}, {repeat("9", 401) + "\xff", api.ErrForm},
}

// brief shortens a text for a message.
func brief(s string) string {
	if len(s) <= 60 {
		return strconv.Quote(s)
	}
	return strconv.Quote(s[:40]) + ".. (" + strconv.Itoa(len(s)) + " bytes)"
}

// outcome is the results of a call as texts, and its error.
type outcome struct {
	texts string
	e     api.Errno
}

func one(s string, e api.Errno) outcome         { return outcome{s, e} }
func two(s, t string, e api.Errno) outcome      { return outcome{s + " " + t, e} }
func three(s, t, u string, e api.Errno) outcome { return outcome{s + " " + t + " " + u, e} }
func list(l []string, e api.Errno) outcome      { return outcome{strings.Join(l, " "), e} }
func integer(n int, e api.Errno) outcome        { return outcome{strconv.Itoa(n), e} }

func expect(t *testing.T, call string, got, want outcome) {
	t.Helper()
	if got != want {
		t.Errorf("%s: got %s, error %d; want %s, error %d", call, brief(got.texts), got.e, brief(want.texts), want.e)
	}
}

// binary is the functions of two whole numbers, and what they return beside an error.
var binary = []struct {
	name string
	call func(a, b string) outcome
	none string
}{
	{"Compare", func(a, b string) outcome { return integer(whole.Compare(a, b)) }, "0"},
	{"Add", func(a, b string) outcome { return one(whole.Add(a, b)) }, ""},
	{"Sub", func(a, b string) outcome { return one(whole.Sub(a, b)) }, ""},
	{"Mul", func(a, b string) outcome { return one(whole.Mul(a, b)) }, ""},
	{"Floor", func(a, b string) outcome { return two(whole.Floor(a, b)) }, " "},
	{"Quo", func(a, b string) outcome { return two(whole.Quo(a, b)) }, " "},
	{"Gcd", func(a, b string) outcome { return three(whole.Gcd(a, b)) }, "  "},
	{"PowMod", func(a, b string) outcome { return one(whole.PowMod(a, b, "3")) }, ""},
	{"PowMod, second", func(a, b string) outcome { return one(whole.PowMod("2", a, b)) }, ""},
}

// unary is the functions of one whole number with arguments that are allowed, and with such that are not.
var unary = []struct {
	name string
	call func(a string) outcome
}{
	{"Pow", func(a string) outcome { return one(whole.Pow(a, 2)) }},
	{"Pow -1", func(a string) outcome { return one(whole.Pow(a, -1)) }},
	{"Root", func(a string) outcome { return one(whole.Root(a, 2)) }},
	{"Root 0", func(a string) outcome { return one(whole.Root(a, 0)) }},
	{"Base", func(a string) outcome { return one(whole.Base(a, 2)) }},
	{"Base 1", func(a string) outcome { return one(whole.Base(a, 1)) }},
	{"Factor", func(a string) outcome { return list(whole.Factor(a)) }},
}

// The form of a number comes before its length, and both before all other errors; the first number comes before the second one.
func TestInvalidNumbers(t *testing.T) {
	for _, x := range invalid {
		if e := whole.Check(x.text); e != x.e {
			t.Errorf("Check(%s): got %d, want %d", brief(x.text), e, x.e)
		}
		for _, f := range unary {
			expect(t, f.name+" of "+brief(x.text), f.call(x.text), outcome{"", x.e})
		}
		for _, f := range binary {
			for _, other := range []string{"0", "-3", nines, "01", large} {
				expect(t, f.name+" of "+brief(x.text)+", "+brief(other), f.call(x.text, other), outcome{f.none, x.e})
			}
			expect(t, f.name+" of 7, "+brief(x.text), f.call("7", x.text), outcome{f.none, x.e})
			expect(t, f.name+" of 0, "+brief(x.text), f.call("0", x.text), outcome{f.none, x.e})
		}
		expect(t, "PowMod, second", one(whole.PowMod("2", "-1", x.text)), outcome{"", x.e})
		expect(t, "PowMod, first", one(whole.PowMod(x.text, "-1", "0")), outcome{"", x.e})
	}
}

// P1.1
func TestCheck(t *testing.T) {
	for _, a := range []string{"0", "1", "-1", "9", "10", "-10", "1000000000", "-999999999", "123456789012345678901234567890", nines, "-" + nines, ten(399), "-" + ten(399)} {
		if e := whole.Check(a); e != api.OK {
			t.Errorf("Check(%s): got %d", brief(a), e)
		}
	}
}

// P1.1
func TestCompare(t *testing.T) {
	ascending := []string{"-" + nines, "-" + ten(399), "-" + repeat("9", 399), "-10000000000000000000", "-1000000001", "-1000000000", "-999999999", "-12", "-3", "-1", "0", "1", "5", "9", "10", "12", "999999999", "1000000000", "1000000001", "2000000000", "9999999999999999999", repeat("9", 399), ten(399), repeat("9", 399) + "8", nines}
	for i, a := range ascending {
		for j, b := range ascending {
			want := 0
			if i < j {
				want = -1
			} else if i > j {
				want = 1
			}
			expect(t, "Compare("+brief(a)+", "+brief(b)+")", integer(whole.Compare(a, b)), outcome{strconv.Itoa(want), api.OK})
		}
	}
}

// P1.2
func TestSums(t *testing.T) {
	for _, x := range []struct{ a, b, sum, difference string }{
		{"0", "0", "0", "0"}, {"0", "7", "7", "-7"}, {"7", "0", "7", "7"}, {"0", "-7", "-7", "7"}, {"-7", "0", "-7", "-7"},
		{"5", "5", "10", "0"}, {"-5", "5", "0", "-10"}, {"-5", "-5", "-10", "0"}, {"1", "100", "101", "-99"}, {"-8", "3", "-5", "-11"}, {"3", "-8", "-5", "11"},
		{"99999999", "1", "100000000", "99999998"}, {"999999999", "1", "1000000000", "999999998"}, {"1000000000", "-1", "999999999", "1000000001"},
		{"999999999999999999", "1", "1000000000000000000", "999999999999999998"}, {"1000000000000000000", "-1", "999999999999999999", "1000000000000000001"},
		{"18446744073709551615", "1", "18446744073709551616", "18446744073709551614"}, {"9223372036854775807", "-9223372036854775808", "-1", "18446744073709551615"},
		{repeat("9", 399), "1", ten(399), repeat("9", 398) + "8"}, {ten(399), "-1", repeat("9", 399), "1" + repeat("0", 398) + "1"},
		{nines, "-" + nines, "0", ""}, {"-" + nines, nines, "0", ""}, {nines, nines, "", "0"}, {nines, "1", "", repeat("9", 399) + "8"}, {"-" + nines, "-1", "", "-" + repeat("9", 399) + "8"}, {nines, "-1", repeat("9", 399) + "8", ""}, {"-" + nines, "1", "-" + repeat("9", 399) + "8", ""}, {"1", "-" + nines, "-" + repeat("9", 399) + "8", ""},
		{"5" + repeat("0", 399), "5" + repeat("0", 399), "", "0"}, {"5" + repeat("0", 399), "4" + repeat("9", 399), nines, "1"}, {nines, "0", nines, nines},
	} {
		expect(t, "Add("+brief(x.a)+", "+brief(x.b)+")", one(whole.Add(x.a, x.b)), orLarge(x.sum))
		expect(t, "Sub("+brief(x.a)+", "+brief(x.b)+")", one(whole.Sub(x.a, x.b)), orLarge(x.difference))
	}
}

// orLarge is the outcome with a result, or, without one, ErrLarge.
func orLarge(result string) outcome {
	if result == "" || length(result) > 400 {
		return outcome{"", api.ErrLarge}
	}
	return outcome{result, api.OK}
}

// P1.2
func TestProducts(t *testing.T) {
	for _, x := range []struct{ a, b, product string }{
		{"0", "0", "0"}, {"0", "-7", "0"}, {"-7", "0", "0"}, {"1", "-7", "-7"}, {"-1", "-7", "7"}, {"-12345", "6789", "-83810205"},
		{"999999999", "999999999", "999999998000000001"}, {"1000000000", "1000000000", "1000000000000000000"}, {"4294967296", "4294967296", "18446744073709551616"}, {"-18446744073709551616", "18446744073709551616", "-340282366920938463463374607431768211456"},
		{ten(200), ten(199), ten(399)}, {ten(200), ten(200), ""}, {"-" + ten(399), "10", ""}, {nines, "1", nines}, {nines, "-1", "-" + nines}, {nines, "0", "0"}, {nines, "2", ""}, {"-" + nines, nines, ""},
		{repeat("3", 400), "3", nines}, {repeat("3", 400), "-3", "-" + nines}, {repeat("3", 400), "4", ""}, {repeat("9", 200), repeat("9", 200), repeat("9", 199) + "8" + repeat("0", 199) + "1"}, {repeat("9", 200), repeat("9", 201), ""},
		{"2" + repeat("0", 199), "5" + repeat("0", 199), ten(399)}, {"2" + repeat("0", 200), "5" + repeat("0", 199), ""},
	} {
		expect(t, "Mul("+brief(x.a)+", "+brief(x.b)+")", one(whole.Mul(x.a, x.b)), orLarge(x.product))
		expect(t, "Mul("+brief(x.b)+", "+brief(x.a)+")", one(whole.Mul(x.b, x.a)), orLarge(x.product))
	}
}

// P1.2, for numbers of all lengths
func TestAgainstPaper(t *testing.T) {
	for a, b := range pairs(1, 3) {
		expect(t, "Add("+a+", "+b+")", one(whole.Add(a, b)), orLarge(naiveAdd(a, b)))
		expect(t, "Sub("+a+", "+b+")", one(whole.Sub(a, b)), orLarge(naiveSub(a, b)))
		expect(t, "Mul("+a+", "+b+")", one(whole.Mul(a, b)), orLarge(naiveMul(a, b)))
		expect(t, "Compare("+a+", "+b+")", integer(whole.Compare(a, b)), outcome{strconv.Itoa(naiveCompare(a, b)), api.OK})
	}
}

// P1.3
func TestDivisions(t *testing.T) {
	for _, x := range []struct{ a, b, floor, quo string }{
		{"7", "2", "3 1", "3 1"}, {"-7", "2", "-4 1", "-3 -1"}, {"7", "-2", "-4 -1", "-3 1"}, {"-7", "-2", "3 -1", "3 -1"},
		{"6", "2", "3 0", "3 0"}, {"-6", "2", "-3 0", "-3 0"}, {"6", "-2", "-3 0", "-3 0"}, {"-6", "-2", "3 0", "3 0"},
		{"0", "5", "0 0", "0 0"}, {"0", "-5", "0 0", "0 0"}, {"1", "5", "0 1", "0 1"}, {"-1", "5", "-1 4", "0 -1"}, {"1", "-5", "-1 -4", "0 1"}, {"-1", "-5", "0 -1", "0 -1"},
		{"5", "1", "5 0", "5 0"}, {"5", "-1", "-5 0", "-5 0"}, {"5", "5", "1 0", "1 0"}, {"4", "5", "0 4", "0 4"},
		{"1000000000", "999999999", "1 1", "1 1"}, {"1000000000000000000", "1000000000", "1000000000 0", "1000000000 0"}, {"999999999999999999", "1000000000", "999999999 999999999", "999999999 999999999"},
		{"100000000000000000000", "10000000001", "9999999999 1", "9999999999 1"}, {"-100000000000000000000", "10000000001", "-10000000000 10000000000", "-9999999999 -1"},
		{nines, "1", nines + " 0", nines + " 0"}, {nines, nines, "1 0", "1 0"}, {"-" + nines, nines, "-1 0", "-1 0"}, {"1", nines, "0 1", "0 1"}, {"-1", nines, "-1 " + repeat("9", 399) + "8", "0 -1"},
		{nines, repeat("9", 200), "1" + repeat("0", 199) + "1 0", "1" + repeat("0", 199) + "1 0"}, {nines, "-" + ten(399), "-10 -1", "-9 " + repeat("9", 399)},
	} {
		expect(t, "Floor("+brief(x.a)+", "+brief(x.b)+")", two(whole.Floor(x.a, x.b)), outcome{x.floor, api.OK})
		expect(t, "Quo("+brief(x.a)+", "+brief(x.b)+")", two(whole.Quo(x.a, x.b)), outcome{x.quo, api.OK})
	}
	for _, a := range []string{"0", "1", "-1", nines, "-" + nines} {
		expect(t, "Floor("+brief(a)+", 0)", two(whole.Floor(a, "0")), outcome{" ", api.ErrZero})
		expect(t, "Quo("+brief(a)+", 0)", two(whole.Quo(a, "0")), outcome{" ", api.ErrZero})
	}
}

// P1.4
func TestGcd(t *testing.T) {
	for _, x := range []struct{ a, b, want string }{
		{"12", "18", "6 2 -1"}, {"18", "12", "6 1 -1"}, {"0", "0", "0 0 0"}, {"-4", "0", "4 -1 0"}, {"4", "0", "4 1 0"}, {"0", "4", "4 0 1"}, {"0", "-4", "4 0 -1"}, {"7", "-3", "1 1 2"}, {"-7", "3", "1 2 5"}, {"-7", "-3", "1 2 -5"}, {"7", "3", "1 1 -2"},
		{"1", "1", "1 0 1"}, {"-1", "1", "1 0 1"}, {"1", "-1", "1 0 -1"}, {"6", "6", "6 0 1"}, {"6", "-6", "6 0 -1"}, {"6", "3", "3 0 1"}, {"3", "6", "3 1 0"}, {"-3", "6", "3 1 1"}, {"240", "46", "2 14 -73"}, {"46", "240", "2 47 -9"}, {"-240", "46", "2 9 47"},
		{nines, "0", nines + " 1 0"}, {"-" + nines, "0", nines + " -1 0"}, {"0", "-" + nines, nines + " 0 -1"}, {nines, nines, nines + " 0 1"}, {nines, "1", "1 0 1"}, {"1", nines, "1 1 0"}, {"-1", nines, "1 " + repeat("9", 399) + "8 1"}, {nines, ten(399), "1 " + repeat("9", 399) + " -" + repeat("9", 398) + "89"}, {ten(399), nines, "1 10 -1"},
	} {
		expect(t, "Gcd("+brief(x.a)+", "+brief(x.b)+")", three(whole.Gcd(x.a, x.b)), outcome{x.want, api.OK})
	}
}

// P1.4, for all small numbers: the least x is found by trying.
func TestGcdSmall(t *testing.T) {
	for a := -40; a <= 40; a++ {
		for b := -40; b <= 40; b++ {
			g := max(a, -a, b, -b)
			for g > 0 && (a%g != 0 || b%g != 0) {
				g--
			}
			x, y := 0, 0
			switch {
			case b != 0:
				for (g-a*x)%b != 0 {
					x++
				}
				y = (g - a*x) / b
			case a != 0:
				x = g / a
			}
			p, q := strconv.Itoa(a), strconv.Itoa(b)
			want := strconv.Itoa(g) + " " + strconv.Itoa(x) + " " + strconv.Itoa(y)
			expect(t, "Gcd("+p+", "+q+")", three(whole.Gcd(p, q)), outcome{want, api.OK})
		}
	}
}

// P1.5
func TestPow(t *testing.T) {
	for _, x := range []struct {
		a    string
		n    int
		want string
	}{
		{"0", 0, "1"}, {"0", 1, "0"}, {"0", 1000, "0"}, {"1", 1000, "1"}, {"-1", 1000, "1"}, {"-1", 999, "-1"}, {"-1", 0, "1"}, {"5", 0, "1"}, {"5", 1, "5"}, {"-5", 1, "-5"}, {"7", 3, "343"}, {"-3", 3, "-27"}, {"-2", 10, "1024"}, {"2", 64, "18446744073709551616"},
		{"10", 399, ten(399)}, {"-10", 399, "-" + ten(399)}, {"10", 400, ""}, {"-10", 400, ""}, {"10", 1000, ""}, {ten(19), 21, ten(399)}, {ten(20), 20, ""}, {ten(57), 7, ten(399)},
		{nines, 0, "1"}, {nines, 1, nines}, {"-" + nines, 1, "-" + nines}, {nines, 2, ""}, {nines, 1000, ""}, {"-" + nines, 999, ""},
		{"2", 1000, naivePow("2", 1000)}, {"9", 419, naivePow("9", 419)}, {"9", 420, ""}, {"-9", 419, naivePow("-9", 419)}, {"2", 999, naivePow("2", 999)}, {"3", 838, naivePow("3", 838)}, {"3", 839, ""}, {"99", 200, naivePow("99", 200)}, {"99", 201, ""},
	} {
		expect(t, "Pow("+brief(x.a)+", "+strconv.Itoa(x.n)+")", one(whole.Pow(x.a, x.n)), orLarge(x.want))
	}
	for _, a := range []string{"0", "1", "2", "-2", nines} {
		for _, n := range []int{-1, -1000, minInt, 1001, 5000, maxInt} {
			expect(t, "Pow("+brief(a)+", "+strconv.Itoa(n)+")", one(whole.Pow(a, n)), outcome{"", api.ErrValue})
		}
	}
}

const (
	maxInt = int(^uint(0) >> 1)
	minInt = -maxInt - 1
)

// P1.5: 2^1279 - 1 is a prime of 386 digits.
func TestPowMod(t *testing.T) {
	prime := naiveSub(naivePow("2", 1279), "1")
	for _, x := range []struct{ a, n, m, want string }{
		{"3", "100", "7", "4"}, {"2", "10", "1000", "24"}, {"2", "10", "1024", "0"}, {"2", "10", "1025", "1024"}, {"-2", "3", "5", "2"}, {"-2", "2", "5", "4"}, {"-1", "3", "7", "6"}, {"-7", "3", "7", "0"}, {"10", "9", "7", "6"}, {"4", "13", "497", "445"},
		{"9", "0", "1", "0"}, {"9", "0", "2", "1"}, {"0", "0", "1", "0"}, {"0", "0", "5", "1"}, {"0", "5", "5", "0"}, {"5", "1", "5", "0"}, {"6", "1", "5", "1"}, {"-6", "1", "5", "4"}, {"5", "1000000000000", "1", "0"}, {"1", nines, "2", "1"}, {"-1", nines, nines, naiveSub(nines, "1")}, {"-1", naiveSub(nines, "1"), nines, "1"},
		{"7", nines, "10", "3"}, {nines, nines, ten(399), repeat("9", 399)}, {"-" + nines, nines, ten(399), "1"}, {nines, nines, nines, "0"}, {"2", nines, "3", "2"}, {"2", "1328", nines, naivePow("2", 1328)}, {"10", "400", nines, "1"}, {"10", naiveMul("4", ten(398)), nines, "1"}, {"10", naiveAdd(naiveMul("4", ten(398)), "7"), nines, "10000000"},
		{"3", naiveSub(prime, "1"), prime, "1"}, {"3", prime, prime, "3"}, {"-3", prime, prime, naiveSub(prime, "3")}, {repeat("8", 400), naiveSub(prime, "1"), prime, "1"}, {"2", "1279", prime, "1"}, {"2", "1280", prime, "2"},
	} {
		expect(t, "PowMod("+brief(x.a)+", "+brief(x.n)+", "+brief(x.m)+")", one(whole.PowMod(x.a, x.n, x.m)), outcome{x.want, api.OK})
	}
	for _, x := range []struct{ a, n, m string }{
		{"5", "-1", "3"}, {"5", "-" + nines, "3"}, {"5", "2", "0"}, {"5", "2", "-1"}, {"5", "2", "-" + nines}, {"5", "-1", "0"}, {"5", "0", "0"}, {"0", "-1", "1"}, {"1", "0", "-3"},
	} {
		expect(t, "PowMod("+x.a+", "+brief(x.n)+", "+brief(x.m)+")", one(whole.PowMod(x.a, x.n, x.m)), outcome{"", api.ErrValue})
	}
	for a := -6; a <= 6; a++ {
		for n := range 8 {
			for m := 1; m <= 9; m++ {
				want := 1
				for range n {
					want *= a
				}
				want = (want%m + m) % m
				expect(t, "PowMod", one(whole.PowMod(strconv.Itoa(a), strconv.Itoa(n), strconv.Itoa(m))), outcome{strconv.Itoa(want), api.OK})
			}
		}
	}
}

// P1.6
func TestRoot(t *testing.T) {
	for _, x := range []struct {
		a    string
		n    int
		want string
	}{
		{"0", 1, "0"}, {"0", 2, "0"}, {"0", 20, "0"}, {"1", 1, "1"}, {"1", 2, "1"}, {"1", 20, "1"}, {"2", 2, "1"}, {"3", 2, "1"}, {"4", 2, "2"}, {"99", 2, "9"}, {"100", 2, "10"}, {"1000", 3, "10"}, {"999", 3, "9"}, {"12345", 1, "12345"}, {"1048575", 20, "1"}, {"1048576", 20, "2"}, {"9999999999", 2, "99999"}, {ten(22), 2, ten(11)},
		{nines, 1, nines}, {nines, 2, repeat("9", 200)}, {nines, 20, repeat("9", 20)}, {nines, 4, repeat("9", 100)}, {ten(399), 3, ten(133)}, {naiveSub(ten(399), "1"), 3, repeat("9", 133)}, {ten(398), 2, ten(199)}, {ten(380), 20, ten(19)}, {naiveSub(ten(380), "1"), 20, repeat("9", 19)},
	} {
		expect(t, "Root("+brief(x.a)+", "+strconv.Itoa(x.n)+")", one(whole.Root(x.a, x.n)), outcome{x.want, api.OK})
	}
	for _, x := range []struct {
		a string
		n int
	}{{"4", 0}, {"4", 21}, {"4", -1}, {"4", minInt}, {"4", maxInt}, {"-1", 1}, {"-8", 3}, {"-1", 2}, {"-" + nines, 20}, {"-1", 0}, {"0", 0}, {"0", 21}, {"1", 21}} {
		expect(t, "Root("+brief(x.a)+", "+strconv.Itoa(x.n)+")", one(whole.Root(x.a, x.n)), outcome{"", api.ErrValue})
	}
	for a := range 600 {
		for n := 2; n <= 20; n++ {
			r := 0
			for naiveCompare(naivePow(strconv.Itoa(r+1), n), strconv.Itoa(a)) <= 0 {
				r++
			}
			expect(t, "Root("+strconv.Itoa(a)+", "+strconv.Itoa(n)+")", one(whole.Root(strconv.Itoa(a), n)), outcome{strconv.Itoa(r), api.OK})
		}
	}
}

// P1.7
func TestBase(t *testing.T) {
	for _, x := range []struct {
		a    string
		base int
		want string
	}{
		{"0", 2, "0"}, {"0", 10, "0"}, {"0", 36, "0"}, {"1", 2, "1"}, {"-1", 36, "-1"}, {"8", 2, "1000"}, {"-8", 2, "-1000"}, {"255", 16, "ff"}, {"-255", 16, "-ff"}, {"255", 2, "11111111"}, {"-35", 36, "-z"}, {"36", 36, "10"}, {"1295", 36, "zz"}, {"11", 12, "b"}, {"9", 11, "9"}, {"10", 11, "a"}, {"1000000", 10, "1000000"}, {"123456789", 16, "75bcd15"}, {"-6", 3, "-20"}, {"512", 2, "1000000000"}, {"511", 2, "111111111"}, {"1000000000", 10, "1000000000"}, {"18446744073709551615", 16, "ffffffffffffffff"}, {"18446744073709551616", 16, "10000000000000000"},
		{nines, 10, nines}, {"-" + nines, 10, "-" + nines}, {ten(399), 10, ten(399)}, {naivePow("2", 1328), 2, ten(1328)}, {naiveSub(naivePow("2", 1328), "1"), 2, repeat("1", 1328)}, {naivePow("36", 256), 36, ten(256)}, {"-" + naivePow("16", 300), 16, "-" + ten(300)},
	} {
		name := strconv.Itoa(x.base) + ") of " + brief(x.a)
		expect(t, "Base(.., "+name, one(whole.Base(x.a, x.base)), outcome{x.want, api.OK})
		expect(t, "FromBase(.., "+name, one(whole.FromBase(x.want, x.base)), outcome{x.a, api.OK})
	}
	for base := 2; base <= 36; base++ {
		for n := range 600 {
			a, want := strconv.Itoa(n), strconv.FormatInt(int64(n), base)
			expect(t, "Base("+a+", "+strconv.Itoa(base)+")", one(whole.Base(a, base)), outcome{want, api.OK})
			expect(t, "FromBase("+want+", "+strconv.Itoa(base)+")", one(whole.FromBase(want, base)), outcome{a, api.OK})
		}
	}
	for _, base := range []int{1, 0, -1, -2, -10, 37, 100, minInt, maxInt} {
		name := ", " + strconv.Itoa(base) + ")"
		for _, a := range []string{"0", "1", "-5", nines} {
			expect(t, "Base("+brief(a)+name, one(whole.Base(a, base)), outcome{"", api.ErrValue})
		}
		for _, s := range []string{"0", "1", "", "-0", "x", "-", large, repeat("z", 500)} {
			expect(t, "FromBase("+brief(s)+name, one(whole.FromBase(s, base)), outcome{"", api.ErrValue})
		}
	}
}

// P1.7
func TestFromBase(t *testing.T) {
	const all = "0123456789abcdefghijklmnopqrstuvwxyz"
	for base := 2; base <= 36; base++ {
		texts := []string{"", "-", "--1", "-0", "00", "01", "-01", "+1", " 1", "1 ", "1-1", "1.0", "_", "A", "1Z", "/", ":", "`", "{", "1{", "@", "[", "1\x00", "\xff", "1\u0661", "\uff11", "\u00e9", "0" + repeat("1", 3000), "1" + repeat("0", 3000) + "!", repeat("1", 401) + "\xff"}
		for _, d := range all[base:] {
			texts = append(texts, string(d), "1"+string(d), string(d)+"1", "-"+string(d), "1"+string(d)+"1", repeat("1", 2000)+string(d))
		}
		for _, s := range texts {
			expect(t, "FromBase("+brief(s)+", "+strconv.Itoa(base)+")", one(whole.FromBase(s, base)), outcome{"", api.ErrForm})
		}
		for i, d := range all[:base] {
			expect(t, "FromBase("+string(d)+", "+strconv.Itoa(base)+")", one(whole.FromBase(string(d), base)), outcome{strconv.Itoa(i), api.OK})
		}
	}
	for base := 2; base <= 36; base++ {
		greatest, e := whole.Base(nines, base)
		if e != api.OK {
			t.Fatal(base, e)
		}
		next := successor(greatest, base)
		name := ", " + strconv.Itoa(base) + ")"
		expect(t, "FromBase(greatest"+name, one(whole.FromBase(greatest, base)), outcome{nines, api.OK})
		expect(t, "FromBase(-greatest"+name, one(whole.FromBase("-"+greatest, base)), outcome{"-" + nines, api.OK})
		for _, s := range []string{next, "-" + next, greatest + "0", greatest + "1", "1" + greatest, repeat("1", 1<<16)} {
			expect(t, "FromBase(too large"+name, one(whole.FromBase(s, base)), outcome{"", api.ErrLarge})
		}
	}
}

// successor returns the digits of the next number in the base.
func successor(s string, base int) string {
	const all = "0123456789abcdefghijklmnopqrstuvwxyz"
	out := []byte(s)
	for i := len(out) - 1; i >= 0; i-- {
		d := strings.IndexByte(all, out[i]) + 1
		if d < base {
			out[i] = all[d]
			return string(out)
		}
		out[i] = '0'
	}
	return "1" + string(out)
}

// P1.8
func TestFactor(t *testing.T) {
	for _, x := range []struct {
		a, want string
		e       api.Errno
	}{
		{"1", "", api.OK}, {"2", "2", api.OK}, {"3", "3", api.OK}, {"4", "2 2", api.OK}, {"360", "2 2 2 3 3 5", api.OK}, {"97", "97", api.OK}, {"91", "7 13", api.OK}, {"999983", "999983", api.OK}, {"999999", "3 3 3 7 11 13 37", api.OK}, {"1000000", "2 2 2 2 2 2 5 5 5 5 5 5", api.OK}, {"524288", "2 2 2 2 2 2 2 2 2 2 2 2 2 2 2 2 2 2 2", api.OK}, {"994009", "997 997", api.OK}, {"996004", "2 2 499 499", api.OK}, {"999962", "2 37 13513", api.OK},
		{"0", "", api.ErrValue}, {"-1", "", api.ErrValue}, {"-4", "", api.ErrValue}, {"-1000001", "", api.ErrValue}, {"-" + nines, "", api.ErrValue},
		{"1000001", "", api.ErrLarge}, {"999999999", "", api.ErrLarge}, {"1000000000", "", api.ErrLarge}, {"1000000001", "", api.ErrLarge}, {"4294967298", "", api.ErrLarge}, {"18446744073709551618", "", api.ErrLarge}, {nines, "", api.ErrLarge}, {ten(399), "", api.ErrLarge},
	} {
		got, e := whole.Factor(x.a)
		expect(t, "Factor("+brief(x.a)+")", list(got, e), outcome{x.want, x.e})
	}
}

// P1.8: the results of one call are not those of another.
func TestFactorMemory(t *testing.T) {
	first, _ := whole.Factor("360")
	want := slices.Clone(first)
	for i := range first {
		first[i] = "x"
	}
	second, _ := whole.Factor("360")
	if !slices.Equal(second, want) {
		t.Error(second)
	}
}
