package ratio_test

import (
	"slices"
	"strings"
	"sync"
	"testing"

	"metewand/api"
	"metewand/ratio"
)

// The examples of the chapter, in its order.
func TestExamples(t *testing.T) {
	for _, x := range []struct {
		call string
		got  outcome
		want outcome
	}{
		{"Check(-3/2)", only(ratio.Check(q("-3", "2"))), fine("")},
		{"Check(2/4)", only(ratio.Check(q("2", "4"))), none(api.ErrForm)},
		{"Check(1/0)", only(ratio.Check(q("1", "0"))), none(api.ErrForm)},
		{"Check(0/2)", only(ratio.Check(q("0", "2"))), none(api.ErrForm)},
		{"Check(1/-2)", only(ratio.Check(q("1", "-2"))), none(api.ErrForm)},
		{"Make(6, -4)", number(ratio.Make("6", "-4")), fine("-3/2")},
		{"Make(0, 5)", number(ratio.Make("0", "5")), fine("0/1")},
		{"Make(1, 0)", number(ratio.Make("1", "0")), none(api.ErrZero)},
		{"Compare(1/3, 2/7)", integer(ratio.Compare(frac(1, 3), frac(2, 7))), fine("1")},
		{"Add(1/6, 1/3)", number(ratio.Add(frac(1, 6), frac(1, 3))), fine("1/2")},
		{"Add(1/2, -1/2)", number(ratio.Add(frac(1, 2), frac(-1, 2))), fine("0/1")},
		{"Mul(-2/3, 3/2)", number(ratio.Mul(frac(-2, 3), frac(3, 2))), fine("-1/1")},
		{"Div(1/2, 0)", number(ratio.Div(frac(1, 2), frac(0, 1))), none(api.ErrZero)},
		{"Pow(-2/3, -3)", number(ratio.Pow(frac(-2, 3), -3)), fine("-27/8")},
		{"Pow(0, 0)", number(ratio.Pow(frac(0, 1), 0)), fine("1/1")},
		{"Pow(0, -1)", number(ratio.Pow(frac(0, 1), -1)), none(api.ErrZero)},
		{"Pow(2, 21)", number(ratio.Pow(frac(2, 1), 21)), none(api.ErrValue)},
		{"Floor(-7/2)", text(ratio.Floor(frac(-7, 2))), fine("-4")},
		{"Floor(7)", text(ratio.Floor(frac(7, 1))), fine("7")},
		{"Nearest(-7/2)", text(ratio.Nearest(frac(-7, 2))), fine("-4")},
		{"Nearest(5/2)", text(ratio.Nearest(frac(5, 2))), fine("2")},
		{"Nearest(8/3)", text(ratio.Nearest(frac(8, 3))), fine("3")},
		{"Decimal(2/3, 3)", text(ratio.Decimal(frac(2, 3), 3)), fine("0.667")},
		{"Decimal(-1/8, 2)", text(ratio.Decimal(frac(-1, 8), 2)), fine("-0.12")},
		{"Decimal(1/8, 0)", text(ratio.Decimal(frac(1, 8), 0)), fine("0")},
		{"Decimal(-1/1000, 1)", text(ratio.Decimal(frac(-1, 1000), 1)), fine("0.0")},
		{"Expand(1/7)", two(ratio.Expand(frac(1, 7))), fine("0. 142857")},
		{"Expand(-1/6)", two(ratio.Expand(frac(-1, 6))), fine("-0.1 6")},
		{"Expand(5/4)", two(ratio.Expand(frac(5, 4))), fine("1.25")},
		{"Expand(12)", two(ratio.Expand(frac(12, 1))), fine("12")},
		{"Print(-3/2)", text(ratio.Print(frac(-3, 2))), fine("-3/2")},
		{"Print(4)", text(ratio.Print(frac(4, 1))), fine("4")},
		{"Parse(-3/2)", number(ratio.Parse("-3/2")), fine("-3/2")},
		{"Parse(6/4)", number(ratio.Parse("6/4")), none(api.ErrForm)},
		{"Parse(-0.25)", number(ratio.Parse("-0.25")), fine("-1/4")},
		{"Parse(.5)", number(ratio.Parse(".5")), none(api.ErrForm)},
		{"Fraction(-7/3)", list(ratio.Fraction(frac(-7, 3))), fine("-3 1 2")},
		{"Fraction(355/113)", list(ratio.Fraction(frac(355, 113))), fine("3 7 16")},
		{"Fraction(5)", list(ratio.Fraction(frac(5, 1))), fine("5")},
		{"OfFraction(3 7 16)", number(ratio.OfFraction([]string{"3", "7", "16"})), fine("355/113")},
		{"OfFraction(1 1 1)", number(ratio.OfFraction([]string{"1", "1", "1"})), fine("3/2")},
		{"Between(1/3, 1/2)", number(ratio.Between(frac(1, 3), frac(1, 2))), fine("2/5")},
		{"Between(-1, 1)", number(ratio.Between(frac(-1, 1), frac(1, 1))), fine("0/1")},
		{"Between(3/10, 1/3)", number(ratio.Between(frac(3, 10), frac(1, 3))), fine("4/13")},
		{"Between(1, 1)", number(ratio.Between(frac(1, 1), frac(1, 1))), none(api.ErrOrder)},
		{"Near(355/113, 10)", number(ratio.Near(frac(355, 113), 10)), fine("22/7")},
		{"Near(1/2, 1)", number(ratio.Near(frac(1, 2), 1)), fine("0/1")},
		{"Near(-7/5, 2)", number(ratio.Near(frac(-7, 5), 2)), fine("-3/2")},
	} {
		expect(t, x.call, x.got, x.want)
	}
}

const (
	maxInt = int(^uint(0) >> 1)
	minInt = -maxInt - 1
)

// calls makes every call of the package with some arguments, and returns all that comes back. The text of the others is what Check has beside its error, which is nothing.
func calls(a, b api.Rat, s string, n int) []outcome {
	return []outcome{
		only(ratio.Check(a)), number(ratio.Make(a.Num, b.Den)), integer(ratio.Compare(a, b)), number(ratio.Add(a, b)), number(ratio.Sub(a, b)), number(ratio.Mul(a, b)), number(ratio.Div(a, b)),
		number(ratio.Pow(a, n)), text(ratio.Floor(a)), text(ratio.Nearest(a)), text(ratio.Decimal(a, n)), two(ratio.Expand(a)), text(ratio.Print(a)), number(ratio.Parse(s)),
		list(ratio.Fraction(a)), number(ratio.OfFraction([]string{a.Num, b.Num, s})), number(ratio.Between(a, b)), number(ratio.Near(a, n)),
	}
}

// P1 and R3: whatever the arguments are, a function returns, an error is one of the chapter, and with it there is nothing else.
func TestAnyArguments(t *testing.T) {
	var numbers []api.Rat
	for _, x := range invalid {
		numbers = append(numbers, x.a)
	}
	numbers = append(numbers, frac(0, 1), frac(1, 1), frac(-1, 3), frac(7, 2), q(nines, "1"), q("-"+nines, "2"), q("1", nines), q(nines, ten(399)), q(repeat("7", 1<<14), "3"), q("\xf0\x9f", "\xf0\x9f"))
	texts := []string{"", "1", "-1/2", "0.25", "1/", "-0", nines + ".5", repeat("1/", 1000), repeat("-", 1000), repeat("9", 1<<14), repeat("9", 1<<14) + ".5", "1/" + repeat("7", 1<<14), "0." + repeat("0", 1<<14)}
	counts := []int{minInt, -21, -20, -1, 0, 1, 2, 20, 21, 200, 201, 1000000, 1000001, maxInt}
	for i, a := range numbers {
		for j, b := range numbers {
			s, n := texts[(i+3*j)%len(texts)], counts[(i*len(numbers)+j)%len(counts)]
			for k, got := range calls(a, b, s, n) {
				switch got.e {
				case api.OK:
					continue
				case api.ErrForm, api.ErrValue, api.ErrOrder, api.ErrMany, api.ErrFew, api.ErrZero, api.ErrLarge, api.ErrNone:
				default:
					t.Errorf("call %d of %s, %s, %s, %d: error %d", k, shown(a), shown(b), brief(s), n, got.e)
				}
				if got.text != "" && !(k == 2 && got.text == "0") {
					t.Errorf("call %d of %s, %s, %s, %d: error %d, but also %s", k, shown(a), shown(b), brief(s), n, got.e, brief(got.text))
				}
			}
		}
	}
}

// R2 and R6: a result depends on the arguments alone, whatever else is computed before, or at the same time.
func TestSideBySide(t *testing.T) {
	seed := source(2)
	type arguments struct {
		a, b api.Rat
		s    string
		n    int
	}
	var all []arguments
	var want [][]outcome
	for range 20 {
		x := arguments{seed.number(t, 390), seed.number(t, 390), seed.digits(30) + "." + seed.digits(30), 1 + seed.below(20)}
		all = append(all, x)
		want = append(want, calls(x.a, x.b, x.s, x.n))
	}
	var group sync.WaitGroup
	for range 8 {
		group.Add(1)
		go func() {
			defer group.Done()
			for i, x := range all {
				if !slices.Equal(calls(x.a, x.b, x.s, x.n), want[i]) {
					t.Errorf("%s, %s: not what it was before", shown(x.a), shown(x.b))
				}
			}
		}()
	}
	group.Wait()
}

// R4: arguments are not changed, and results are not shared.
func TestMemory(t *testing.T) {
	terms := []string{"3", "7", "16"}
	a, _ := ratio.OfFraction(terms)
	if !slices.Equal(terms, []string{"3", "7", "16"}) {
		t.Error("OfFraction changes its list:", terms)
	}
	first, _ := ratio.Fraction(a)
	first[0], first[1] = "x", "y"
	second, _ := ratio.Fraction(a)
	if strings.Join(second, " ") != "3 7 16" {
		t.Error("Fraction shares its list:", second)
	}
}

// R4: a nil list is an empty one.
func TestEmptyLists(t *testing.T) {
	expect(t, "OfFraction of nil", number(ratio.OfFraction(nil)), none(api.ErrFew))
	expect(t, "OfFraction of nothing", number(ratio.OfFraction([]string{})), none(api.ErrFew))
}
