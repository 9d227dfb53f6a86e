package exact_test

import (
	"strings"
	"testing"

	"metewand/api"
	"metewand/exact"
	"metewand/stop"
)

// The layers test what they need up to their lengths; these tests are about numbers that are longer, by the laws that numbers obey.

// source is a row of numbers that look like chance, and are the same in each run.
type source uint64

func (s *source) below(n int) int {
	*s = *s*6364136223846793005 + 1442695040888963407
	return int(uint64(*s>>33) % uint64(n))
}

// whole returns a whole number of just so many digits: any ones, or long rows of the same ones, which carry far.
func (s *source) whole(size int) exact.Int {
	out := []byte{byte('1' + s.below(9))}
	rows := s.below(3) == 0
	for len(out) < size {
		digit := byte('0' + s.below(10))
		if rows && s.below(40) > 0 {
			digit = []byte("09")[len(out)/50%2]
		}
		out = append(out, digit)
	}
	text := string(out)
	if s.below(2) == 0 {
		text = "-" + text
	}
	return exact.Read(text)
}

// ratio returns a number with a numerator and a denominator of about so many digits.
func (s *source) ratio(size int) exact.Ratio {
	return exact.Quotient(s.whole(1+s.below(size)), s.whole(1+s.below(size)))
}

// lengths are numbers of digits on both sides of where the ways to compute change.
var lengths = []int{1, 9, 10, 18, 19, 72, 73, 280, 300, 401, 800, 1500, 4000}

func same(t *testing.T, law string, a, b exact.Int) {
	t.Helper()
	if a.Compare(b) != 0 || a.Text() != b.Text() {
		t.Errorf("%s: %s is not %s", law, a.Text(), b.Text())
	}
}

func TestLongWholeNumbers(t *testing.T) {
	seed := source(1)
	for range 300 {
		a, b, c := seed.whole(lengths[seed.below(len(lengths))]), seed.whole(lengths[seed.below(len(lengths))]), seed.whole(lengths[seed.below(len(lengths))])
		same(t, "distribution", a.Times(b.Plus(c)), a.Times(b).Plus(a.Times(c)))
		same(t, "grouping", a.Times(b, c), c.Times(b).Times(a))
		same(t, "difference", a.Minus(b).Plus(b), a)
		same(t, "text", exact.Read(a.Text()), a)
		for _, base := range []int{2, 7, 36} {
			same(t, "base", exact.OfBase(a.InBase(base), base), a)
		}
		q, r := a.Floor(b)
		same(t, "floor", q.Times(b).Plus(r), a)
		if r.Size().Compare(b.Size()) >= 0 || r.Sign()*b.Sign() < 0 {
			t.Errorf("the remainder %s of %s, %s", r.Text(), a.Text(), b.Text())
		}
		q, r = a.Times(b).Quo(b)
		same(t, "quotient of a product", q, a)
		same(t, "rest of a product", r, exact.Of(0))
		if a.Length() != len(strings.TrimPrefix(a.Text(), "-")) || exact.Width(a.Text(), 10) != a.Length() {
			t.Errorf("the length of %s", a.Text())
		}
	}
}

func TestLongDivisors(t *testing.T) {
	seed := source(2)
	for range 150 {
		a, b, c := seed.whole(lengths[seed.below(len(lengths))]), seed.whole(lengths[seed.below(len(lengths))]), seed.whole(lengths[seed.below(len(lengths))])
		g, x, y := a.Combine(b)
		same(t, "combination", a.Times(x).Plus(b.Times(y)), g)
		same(t, "divisor", a.Divisor(b), g)
		same(t, "divisor of multiples", a.Times(c).Divisor(b.Times(c)), g.Times(c).Size())
		_, left := a.Floor(g)
		_, right := b.Floor(g)
		same(t, "rests", left.Size().Plus(right.Size()), exact.Of(0))
	}
	for _, x := range []struct{ a, b, g int }{{0, 0, 0}, {0, 5, 5}, {-5, 0, 5}, {12, -18, 6}} {
		same(t, "divisor", exact.Of(x.a).Divisor(exact.Of(x.b)), exact.Of(x.g))
	}
}

func TestOrderOfBlocks(t *testing.T) {
	for size := 1; size <= 400; size += 7 {
		for at := 0; at < size; at += 5 {
			text := []byte(strings.Repeat("4", size))
			a := exact.Read(string(text))
			text[at] = '5'
			b := exact.Read(string(text))
			if a.Compare(b) != -1 || b.Compare(a) != 1 || a.Negative().Compare(b.Negative()) != 1 || a.Compare(a) != 0 {
				t.Errorf("Compare of %d digits that differ at %d", size, at)
			}
		}
	}
}

func TestLongRatios(t *testing.T) {
	seed := source(3)
	zero, one := exact.Whole(exact.Of(0)), exact.Whole(exact.Of(1))
	for range 200 {
		size := []int{4, 9, 10, 30, 150, 401, 900}[seed.below(7)]
		a, b, c := seed.ratio(size), seed.ratio(size), seed.ratio(size)
		for _, x := range []struct {
			law  string
			a, b exact.Ratio
		}{
			{"distribution", a.Times(b.Plus(c)), a.Times(b).Plus(a.Times(c))}, {"grouping of a sum", a.Plus(b).Plus(c), a.Plus(b.Plus(c))}, {"grouping of a product", a.Times(b).Times(c), a.Times(b.Times(c))}, {"difference", a.Plus(b).Minus(b), a}, {"quotient", a.Times(b).Over(b), a}, {"negative", a.Plus(a.Negative()), zero}, {"inverse", a.Times(a.Inverse()), one},
		} {
			if x.a != x.b || x.a.Compare(x.b) != 0 {
				t.Errorf("%s: %v is not %v", x.law, x.a, x.b)
			}
			if p, q := x.a.Parts(); !exact.Lowest(x.a.Rat) || q.Sign() <= 0 || x.a.Sign() != p.Sign() {
				t.Errorf("%s: %v is not in lowest terms", x.law, x.a)
			}
		}
		if a.Minus(b).Sign() != a.Compare(b) {
			t.Errorf("the order of %v, %v", a, b)
		}
		floor, rest := a.Split()
		if exact.Whole(floor).Plus(rest) != a || rest.Sign() < 0 || rest.Compare(one) >= 0 {
			t.Errorf("the parts of %v", a)
		}
	}
}

func TestLongPowers(t *testing.T) {
	seed := source(4)
	for range 100 {
		a, m, n := seed.ratio(300), seed.below(9)-4, seed.below(9)-4
		for _, x := range []struct {
			law  string
			a, b exact.Ratio
		}{
			{"power of a sum", a.Power(m + n), a.Power(m).Times(a.Power(n))}, {"power of a power", a.Power(m * n), a.Power(m).Power(n)}, {"first power", a.Power(1), a}, {"negative power", a.Power(-n), a.Inverse().Power(n)},
		} {
			if x.a != x.b || !exact.Lowest(x.a.Rat) {
				t.Errorf("%s: %v is not %v", x.law, x.a, x.b)
			}
		}
	}
	if one := exact.Whole(exact.Of(1)); exact.Whole(exact.Of(0)).Power(0) != one {
		t.Errorf("the power 0 of 0")
	}
}

func TestExponents(t *testing.T) {
	whole := func(n int) exact.Ratio { return exact.Whole(exact.Of(n)) }
	half := exact.Quotient(exact.Of(1), exact.Of(2))
	e := exact.Exponents{}
	e.Raise("s", whole(-2))
	e.Raise("m", half)
	e.Raise("kg", whole(0))
	e.Multiply([]api.Power{{Base: "a", Exp: half.Rat}, {Base: "s", Exp: whole(1).Rat}}, whole(2))
	if len(e) != 2 || e["m"] != half || e["a"] != whole(1) {
		t.Errorf("exponents: %v", e)
	}
	e.Multiply([]api.Power{{Base: "b", Exp: whole(3).Rat}, {Base: "m", Exp: whole(1).Rat}}, whole(0))
	if list := e.Result(); len(list) != 2 || list[0] != (api.Power{Base: "a", Exp: whole(1).Rat}) || list[1] != (api.Power{Base: "m", Exp: half.Rat}) {
		t.Errorf("powers: %v", list)
	}
	e.Raise("a", exact.Whole(exact.Ten(api.Digits)))
	if list := e.Powers(); len(list) != 2 || len(list[0].Exp.Num) != api.Digits+1 {
		t.Errorf("powers: %v", list)
	}
	if _, err := stop.Attempt(e.Result); err != api.ErrLarge {
		t.Errorf("a result that is too large: error %d", err)
	}
}

func TestResult(t *testing.T) {
	nines := exact.Ten(api.Digits).Minus(exact.Of(1))
	for _, a := range []exact.Ratio{exact.Whole(nines), exact.Whole(nines.Negative()), exact.Quotient(exact.Of(-1), nines)} {
		if n, e := stop.Attempt(a.Result); n != a.Rat || e != api.OK {
			t.Errorf("Result of %v: %v, error %d", a, n, e)
		}
	}
	for _, a := range []exact.Ratio{exact.Whole(exact.Ten(api.Digits)), exact.Quotient(exact.Of(1), exact.Ten(api.Digits).Negative())} {
		if n, e := stop.Attempt(a.Result); n != (api.Rat{}) || e != api.ErrLarge {
			t.Errorf("Result of %v: %v, error %d", a, n, e)
		}
	}
}

func TestErrors(t *testing.T) {
	zero := exact.Of(0)
	for k, work := range []func() string{
		func() string { return exact.Quotient(zero, zero).Num },
		func() string { return exact.Whole(zero).Inverse().Num },
		func() string { return exact.Whole(zero).Power(-1).Num },
		func() string { return exact.Whole(exact.Of(3)).Over(exact.Whole(zero)).Num },
		func() string { q, _ := exact.Of(3).Floor(zero); return q.Text() },
	} {
		if s, e := stop.Attempt(work); s != "" || e != api.ErrZero {
			t.Errorf("division %d by 0: %s, error %d", k, s, e)
		}
	}
	for _, s := range []string{"", "-", "01", "-0", "1x", strings.Repeat("0", 500)} {
		if _, e := stop.Attempt(func() exact.Int { return exact.Read(s) }); e != api.ErrForm {
			t.Errorf("Read(%s): error %d", s, e)
		}
	}
}
