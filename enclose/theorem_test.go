package enclose_test

import (
	"math"
	"slices"
	"strconv"
	"testing"

	"metewand/api"
	"metewand/enclose"
	"metewand/ratio"
)

// power returns x to the power n.
func power(x api.Rat, n int) api.Rat { return number(ratio.Pow(x, n)) }

// values returns what an operation makes of each pair of numbers.
func values(l, m []api.Rat, operation func(x, y api.Rat) api.Rat) []api.Rat {
	var out []api.Rat
	for _, x := range l {
		for _, y := range m {
			out = append(out, operation(x, y))
		}
	}
	return out
}

// P6.2 and P6.8: the results of sums, products and quotients are just those from the least to the greatest one, which are at ends; those of powers, at ends or at 0.
func TestInside(t *testing.T) {
	seed := source(1)
	for range 1500 {
		a, b := seed.span(9), seed.span(9)
		call := " of " + text(a) + " and " + text(b)
		l, m := some(a), some(b)
		expect(t, "Plus"+call, one(enclose.Plus(a, b)), fine(text(all(values(l, m, plus)))))
		expect(t, "Minus"+call, one(enclose.Minus(a, b)), fine(text(all(values(l, m, minus)))))
		expect(t, "Times"+call, one(enclose.Times(a, b)), fine(text(all(values(l, m, times)))))
		want := none(api.ErrZero)
		if !has(b, whole(0)) {
			want = fine(text(all(values(l, m, over))))
		}
		expect(t, "Over"+call, one(enclose.Over(a, b)), want)
		n := seed.below(7)
		expect(t, "Power"+call, one(enclose.Power(a, n)), fine(text(all(values(l, l[:1], func(x, _ api.Rat) api.Rat { return power(x, n) })))))
	}
}

// The same with long numbers, which are not too long for sums and products
func TestLongInside(t *testing.T) {
	seed := source(2)
	for range 60 {
		a, b := all([]api.Rat{seed.long(100), seed.long(100)}), all([]api.Rat{seed.long(90), seed.long(90)})
		call := " of " + text(a) + " and " + text(b)
		ends, others := []api.Rat{a.Lo, a.Hi}, []api.Rat{b.Lo, b.Hi}
		expect(t, "Plus"+call, one(enclose.Plus(a, b)), fine(text(all(values(ends, others, plus)))))
		expect(t, "Minus"+call, one(enclose.Minus(a, b)), fine(text(all(values(ends, others, minus)))))
		expect(t, "Times"+call, one(enclose.Times(a, b)), fine(text(all(values(ends, others, times)))))
		if !has(b, whole(0)) {
			expect(t, "Over"+call, one(enclose.Over(a, b)), fine(text(all(values(ends, others, over)))))
		}
	}
}

// P6.1: what both have is what each of them has, and what one of them has, the hull has, whose ends are theirs.
func TestMeetAndHull(t *testing.T) {
	seed := source(3)
	for range 800 {
		a, b := seed.span(4), seed.span(4)
		call := " of " + text(a) + " and " + text(b)
		hull := enclosure(t, "Hull"+call)(enclose.Hull(a, b))
		expect(t, "Hull"+call, fine(text(hull)), fine(text(all([]api.Rat{a.Lo, a.Hi, b.Lo, b.Hi}))))
		meet, e := enclose.Meet(a, b)
		if (e == api.OK) != common(a, b) || e != api.OK && e != api.ErrNone {
			t.Errorf("Meet%s: error %d", call, e)
		}
		for _, x := range append(some(a), some(b)...) {
			both := has(a, x) && has(b, x)
			if both != (e == api.OK && has(meet, x)) {
				t.Errorf("Meet%s: %s and %s", call, text(meet), shown(x))
			}
			expect(t, "Has of "+text(a)+" and "+shown(x), truth(enclose.Has(a, x)), fine(strconv.FormatBool(has(a, x))))
		}
	}
}

// P6.9
func TestNarrower(t *testing.T) {
	seed := source(4)
	for range 600 {
		a, b, x := seed.span(5), seed.span(5), seed.span(5)
		c, d, y := seed.inside(a), seed.inside(b), seed.inside(x)
		call := " of " + text(c) + " in " + text(a) + " and " + text(d) + " in " + text(b)
		for _, f := range pairs {
			wide, e := f.call(a, b)
			narrow, n := f.call(c, d)
			if e == api.OK && n == api.OK && !lies(narrow, wide) || e == api.OK && n != api.OK && n != api.ErrNone {
				t.Errorf("%s%s: %s and %s, error %d", f.name, call, text(narrow), text(wide), n)
			}
		}
		n := seed.below(7)
		if wide, narrow := enclosure(t, "Power")(enclose.Power(a, n)), enclosure(t, "Power")(enclose.Power(c, n)); !lies(narrow, wide) {
			t.Errorf("Power%s: %s and %s", call, text(narrow), text(wide))
		}
		wide := must[[]api.Enclosure](t, "Solve")(enclose.Solve(a, b, x))
		for _, part := range must[[]api.Enclosure](t, "Solve")(enclose.Solve(c, d, y)) {
			if !slices.ContainsFunc(wide, func(w api.Enclosure) bool { return lies(part, w) }) {
				t.Errorf("Solve%s: %s and %s", call, text(part), texts(wide))
			}
		}
		if v, w := must[int](t, "Below")(enclose.Below(a, b)), must[int](t, "Below")(enclose.Below(c, d)); v != api.Maybe && v != w {
			t.Errorf("Below%s: %d and %d", call, w, v)
		}
	}
}

// P6.9 for the functions that are rounded outward: with fewer places the result is not narrower, either.
func TestNarrowerOutward(t *testing.T) {
	seed := source(5)
	for _, f := range outwards {
		for range 120 {
			a := seed.within(rat(f.lo), rat(f.hi))
			c, places := seed.inside(a), seed.below(9)
			wide := enclosure(t, f.name+" of "+text(a))(f.call(a, places))
			narrow := enclosure(t, f.name+" of "+text(c))(f.call(c, places))
			sharp := enclosure(t, f.name+" of "+text(c))(f.call(c, places+seed.below(9-places)))
			if !lies(narrow, wide) || !lies(sharp, narrow) {
				t.Errorf("%s of %s and %s: %s, %s, %s", f.name, text(c), text(a), text(sharp), text(narrow), text(wide))
			}
		}
	}
}

// P6.10
func TestApart(t *testing.T) {
	seed := source(6)
	for range 500 {
		a, b, c := seed.span(7), seed.span(7), seed.span(7)
		sum := enclosure(t, "Plus")(enclose.Plus(b, c))
		product := enclosure(t, "Times")(enclose.Times(a, sum))
		first, second := enclosure(t, "Times")(enclose.Times(a, b)), enclosure(t, "Times")(enclose.Times(a, c))
		if whole := enclosure(t, "Plus")(enclose.Plus(first, second)); !lies(product, whole) {
			t.Errorf("%s times %s and %s: %s and %s", text(a), text(b), text(c), text(product), text(whole))
		}
	}
}

// around returns numbers of an enclosure and next to those of a list.
func around(x api.Enclosure, l []api.Enclosure) []api.Rat {
	out := some(x)
	step := rat("1/1000000")
	for _, part := range l {
		for _, end := range []api.Rat{part.Lo, part.Hi} {
			out = append(out, end, plus(end, step), minus(end, step))
		}
	}
	return append(out, power(step, 3), power(minus(whole(0), step), 3))
}

// P6.3 and P6.11
func TestSolved(t *testing.T) {
	seed := source(7)
	twice := 0
	for i := range 3000 {
		a, b, x := seed.span(3), seed.span(3), seed.span(4)
		if i%3 == 0 {
			b = all([]api.Rat{b.Lo, minus(seed.number(1), b.Lo)})
		}
		call := "Solve of " + text(a) + ", " + text(b) + " and " + text(x)
		l := must[[]api.Enclosure](t, call)(enclose.Solve(a, b, x))
		if len(l) == 2 {
			twice++
		}
		for i, part := range l {
			if enclose.Check(part) != api.OK || !lies(part, x) || i > 0 && compare(l[i-1].Hi, part.Lo) >= 0 || len(l) > 2 {
				t.Errorf("%s: %s", call, texts(l))
			}
		}
		for _, z := range around(x, l) {
			_, e := enclose.Meet(enclosure(t, "Times")(enclose.Times(point(z), b)), a)
			want := e == api.OK && has(x, z)
			if got := slices.ContainsFunc(l, func(part api.Enclosure) bool { return has(part, z) }); got != want {
				t.Errorf("%s: %s, and %s is one is %t", call, texts(l), shown(z), want)
			}
		}
	}
	if twice < 100 {
		t.Errorf("only %d have two parts", twice)
	}
}

// P6.5 and P6.12
func TestRounded(t *testing.T) {
	seed := source(8)
	for i := range 400 {
		a, places := seed.span(20), seed.below(9)
		if i%4 == 0 {
			a = all([]api.Rat{seed.long(150), seed.long(150)})
		}
		call := "Round of " + text(a) + " to " + strconv.Itoa(places)
		b := enclosure(t, call)(enclose.Round(a, places))
		unit := decimal(1, places)
		for _, end := range []api.Rat{b.Lo, b.Hi} {
			if over(end, unit).Den != "1" {
				t.Errorf("%s: %s is no decimal", call, shown(end))
			}
		}
		if !lies(a, b) || compare(plus(b.Lo, unit), a.Lo) <= 0 || compare(minus(b.Hi, unit), a.Hi) >= 0 {
			t.Errorf("%s: %s", call, text(b))
		}
		expect(t, "again "+call, one(enclose.Round(b, places)), fine(text(b)))
	}
}

// P6.13
func TestRoots(t *testing.T) {
	seed := source(9)
	for i := range 400 {
		a, places := seed.within(whole(0), whole(30)), seed.below(9)
		switch i % 4 {
		case 0:
			a = enclosure(t, "Power")(enclose.Power(all([]api.Rat{seed.long(150), seed.long(150)}), 2))
		case 1:
			x := decimal(seed.below(5000), places)
			a = point(times(x, x))
		}
		call := "Root of " + text(a) + " to " + strconv.Itoa(places)
		b := enclosure(t, call)(enclose.Root(a, places))
		unit := decimal(1, places)
		low, high := plus(b.Lo, unit), minus(b.Hi, unit)
		if compare(b.Lo, whole(0)) < 0 || compare(times(b.Lo, b.Lo), a.Lo) > 0 || compare(times(b.Hi, b.Hi), a.Hi) < 0 {
			t.Errorf("%s: %s", call, text(b))
		}
		if compare(times(low, low), a.Lo) <= 0 || b.Hi.Num != "0" && compare(times(high, high), a.Hi) >= 0 {
			t.Errorf("%s: %s is not the narrowest one", call, text(b))
		}
		expect(t, "Round of "+call, one(enclose.Round(b, places)), fine(text(b)))
	}
}

// P6.6: what machine numbers say
func TestMachineNumbers(t *testing.T) {
	seed := source(10)
	machine := map[string]func(float64) float64{"Root": math.Sqrt, "Exp": math.Exp, "Log": math.Log}
	for _, f := range outwards {
		is, listed := machine[f.name]
		if !listed {
			continue
		}
		for range 300 {
			a, places := seed.within(rat(f.lo), rat(f.hi)), seed.below(9)
			if want, ok := outward(is(float(a.Lo)), is(float(a.Hi)), places); ok {
				expect(t, f.name+" of "+text(a)+" to "+strconv.Itoa(places), one(f.call(a, places)), fine(text(want)))
			}
		}
	}
}

// P6.7: the same for the sine, at the ends, and where it turns
func TestMachineSines(t *testing.T) {
	seed := source(11)
	for range 600 {
		a, places := seed.within(rat("-4"), rat("4")), seed.below(9)
		from, to := float(a.Lo), float(a.Hi)
		l := []float64{math.Sin(from), math.Sin(to)}
		for _, turn := range []float64{-math.Pi / 2, math.Pi / 2} {
			if from < turn && turn < to {
				l = append(l, math.Round(math.Sin(turn)))
			}
		}
		if want, ok := outward(slices.Min(l), slices.Max(l), places); ok {
			expect(t, "Sin of "+text(a)+" to "+strconv.Itoa(places), one(enclose.Sin(a, places)), fine(text(want)))
		}
	}
}

// P6.14 and P6.15
func TestExpAndLog(t *testing.T) {
	seed := source(12)
	for range 150 {
		a, b, places := seed.within(rat("-2"), rat("2")), seed.within(rat("-2"), rat("2")), 2+seed.below(7)
		call := text(a) + " and " + text(b) + " to " + strconv.Itoa(places)
		first, second := enclosure(t, "Exp")(enclose.Exp(a, places)), enclosure(t, "Exp")(enclose.Exp(b, places))
		both := enclosure(t, "Exp")(enclose.Exp(enclosure(t, "Plus")(enclose.Plus(a, b)), places))
		if !common(both, enclosure(t, "Times")(enclose.Times(first, second))) {
			t.Errorf("Exp of %s: %s, %s, and of the sum %s", call, text(first), text(second), text(both))
		}
		if compare(first.Lo, whole(0)) <= 0 || compare(a.Lo, b.Lo) <= 0 && compare(first.Lo, second.Lo) > 0 || compare(a.Hi, b.Hi) <= 0 && compare(first.Hi, second.Hi) > 0 {
			t.Errorf("Exp of %s: %s, %s", call, text(first), text(second))
		}
		if back := enclosure(t, "Log")(enclose.Log(first, places)); !lies(a, back) {
			t.Errorf("Log of Exp of %s: %s", text(a), text(back))
		}
	}
}

// P6.16
func TestSines(t *testing.T) {
	seed := source(13)
	for range 200 {
		a, places := seed.within(rat("-4/3"), rat("4/3")), seed.below(9)
		b := enclosure(t, "Sin")(enclose.Sin(a, places))
		if !lies(b, enc("-1..1")) {
			t.Errorf("Sin of %s: %s", text(a), text(b))
		}
		expect(t, "Sin of -("+text(a)+")", one(enclose.Sin(negative(a), places)), fine(text(negative(b))))
		triple := enclosure(t, "Sin")(enclose.Sin(enclosure(t, "Times")(enclose.Times(a, enc("3"))), places))
		cube := enclosure(t, "Power")(enclose.Power(b, 3))
		other := enclosure(t, "Minus")(enclose.Minus(enclosure(t, "Times")(enclose.Times(enc("3"), b)), enclosure(t, "Times")(enclose.Times(enc("4"), cube))))
		if !common(triple, other) {
			t.Errorf("Sin of %s times three: %s and %s", text(a), text(triple), text(other))
		}
	}
}

// P6.4 and P6.17
func TestBelow(t *testing.T) {
	seed := source(14)
	for range 800 {
		a, b := seed.span(3), seed.span(3)
		call := text(a) + " and " + text(b)
		less := 0
		l, m := []api.Rat{a.Lo, a.Hi}, []api.Rat{b.Lo, b.Hi}
		for _, x := range l {
			for _, y := range m {
				if compare(x, y) < 0 {
					less++
				}
			}
		}
		want := map[int]int{0: api.No, 4: api.Yes}[less]
		if want == 0 {
			want = api.Maybe
		}
		expect(t, "Below of "+call, verdict(enclose.Below(a, b)), verdict(want, api.OK))
		other := must[int](t, "Below")(enclose.Below(b, a))
		if want == api.Yes && other != api.No || want == api.Maybe && other == api.Yes {
			t.Errorf("Below of %s: %d, exchanged %d", call, want, other)
		}
	}
}
