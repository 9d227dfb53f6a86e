package ratio_test

import (
	"strconv"
	"strings"
	"testing"

	"metewand/api"
	"metewand/ratio"
	"metewand/whole"
)

func same(t *testing.T, law string, a, b api.Rat) {
	t.Helper()
	if a != b {
		t.Errorf("%s: %s is not %s", law, shown(a), shown(b))
	}
}

// sizes are numbers of digits for which the laws are tried.
var sizes = []int{1, 3, 9, 10, 30, 66}

// P2.9
func TestField(t *testing.T) {
	seed := source(9)
	zero, one := frac(0, 1), frac(1, 1)
	for range 400 {
		most := sizes[seed.below(len(sizes))]
		a, b, c := seed.number(t, most), seed.number(t, most), seed.number(t, most)
		same(t, "order of a sum", add(t, a, b), add(t, b, a))
		same(t, "grouping of a sum", add(t, add(t, a, b), c), add(t, a, add(t, b, c)))
		same(t, "order of a product", mul(t, a, b), mul(t, b, a))
		same(t, "grouping of a product", mul(t, mul(t, a, b), c), mul(t, a, mul(t, b, c)))
		same(t, "distribution", mul(t, a, add(t, b, c)), add(t, mul(t, a, b), mul(t, a, c)))
		same(t, "a difference undoes a sum", sub(t, add(t, a, b), b), a)
		same(t, "a number less itself", sub(t, a, a), zero)
		same(t, "adding 0", add(t, a, zero), a)
		same(t, "multiplying with 1", mul(t, a, one), a)
		same(t, "multiplying with 0", mul(t, zero, a), zero)
		if b != zero {
			same(t, "a quotient undoes a product", div(t, mul(t, a, b), b), a)
			same(t, "a number divided by itself", div(t, b, b), one)
			same(t, "a number times its inverse", mul(t, b, div(t, one, b)), one)
		}
	}
}

// P2.9, by the remainders of long numbers: those of a result are what the remainders of its numbers say.
func TestRemainders(t *testing.T) {
	seed := source(90)
	for range 300 {
		most := []int{20, 100, 200, 400}[seed.below(4)]
		a, b := seed.number(t, most), seed.number(t, most)
		for k, f := range binary[1:5] {
			if k == 3 && b.Num == "0" {
				continue
			}
			got := f.call(a, b)
			if got.e != api.OK {
				if got.e != api.ErrLarge || most <= 100 {
					t.Errorf("%s of %s, %s: error %d", f.name, shown(a), shown(b), got.e)
				}
				continue
			}
			num, den, _ := strings.Cut(got.text, "/")
			for _, prime := range primes {
				x, y := remainder(a, prime), remainder(b, prime)
				want := []uint64{x + y, x + prime - y, x * y, x * power(y, prime-2, prime)}[k] % prime
				if remainder(q(num, den), prime) != want {
					t.Errorf("%s of %s, %s: %s", f.name, shown(a), shown(b), brief(got.text))
				}
			}
		}
	}
}

// P2.9: a result is too large just if its digits are too many. Numbers over the same denominator, or over its factors, have a sum with at most this denominator.
func TestLargeOrNot(t *testing.T) {
	seed := source(91)
	for range 100 {
		d, s := seed.digits(200), seed.digits(200)
		product := must[string](t, "Mul")(whole.Mul(d, s))
		a := must[api.Rat](t, "Make")(ratio.Make(seed.digits(len(product)-1), product))
		b := must[api.Rat](t, "Make")(ratio.Make("-"+seed.digits(len(product)-1), product))
		c := must[api.Rat](t, "Make")(ratio.Make(seed.digits(200), d))
		add(t, a, b)
		sub(t, a, add(t, b, a))
		sub(t, c, a)
		same(t, "a difference undoes a sum", sub(t, add(t, a, b), b), a)
		same(t, "a sum undoes a difference", add(t, sub(t, c, a), a), c)
	}
}

// P2.10
func TestOrder(t *testing.T) {
	seed := source(10)
	for range 400 {
		most := sizes[seed.below(len(sizes))]
		a, b, c := seed.number(t, most), seed.number(t, most), seed.number(t, most)
		order := compare(t, a, b)
		if order != -compare(t, b, a) || (order == 0) != (a == b) || compare(t, a, a) != 0 {
			t.Error("not a total order:", shown(a), shown(b))
		}
		if order <= 0 && compare(t, b, c) <= 0 && compare(t, a, c) > 0 {
			t.Error("not transitive:", shown(a), shown(b), shown(c))
		}
		if compare(t, add(t, a, c), add(t, b, c)) != order {
			t.Error("a sum does not keep the order:", shown(a), shown(b), shown(c))
		}
		if c = size(c); c.Num != "0" && compare(t, mul(t, a, c), mul(t, b, c)) != order {
			t.Error("a product does not keep the order:", shown(a), shown(b), shown(c))
		}
		if sign := compare(t, sub(t, a, b), frac(0, 1)); sign != order {
			t.Error("the sign of a difference is not the order:", shown(a), shown(b))
		}
	}
}

// P2.10, for numbers with 400 digits: neighbours in the tree of fractions are as near as can be.
func TestOrderOfNeighbours(t *testing.T) {
	seed := source(101)
	for range 100 {
		p, d := seed.digits(400), seed.digits(400)
		g, x, y, _ := whole.Gcd(p, d)
		if g != "1" {
			continue
		}
		// p x + d y is 1, so that p/d is 1/(d x) more than -y/x.
		a, b := q(p, d), must[api.Rat](t, "Make")(ratio.Make(y, "-"+x))
		if compare(t, a, b) != 1 || compare(t, b, a) != -1 {
			t.Errorf("Compare(%s, %s)", shown(a), shown(b))
		}
		less := must[string](t, "Sub")(whole.Sub(d, x))
		more := must[string](t, "Add")(whole.Add(p, y))
		b = must[api.Rat](t, "Make")(ratio.Make(more, less))
		if compare(t, a, b) != -1 || compare(t, b, a) != 1 {
			t.Errorf("Compare(%s, %s)", shown(a), shown(b))
		}
	}
}

// P2.11
func TestLowest(t *testing.T) {
	seed := source(11)
	for range 200 {
		most := []int{5, 9, 12, 40, 100, 390}[seed.below(6)]
		a, b := seed.number(t, most), seed.number(t, most)
		valid(t, "Make", a)
		s := seed.digits(1+seed.below(most)) + "." + seed.digits(1+seed.below(min(most, 200)))
		for k, got := range calls(a, b, s, 1+seed.below(20)) {
			if num, den, is := strings.Cut(got.text, "/"); is && k != 12 {
				valid(t, "call "+strconv.Itoa(k)+" of "+shown(a)+", "+shown(b), q(num, den))
			}
		}
	}
	// The same number, in lowest terms by chance or not, is the same strings.
	for range 200 {
		most := []int{3, 9, 60, 190}[seed.below(4)]
		p, d, k := seed.digits(most), seed.digits(most), seed.digits(most)
		longP, longD := must[string](t, "Mul")(whole.Mul(p, k)), must[string](t, "Mul")(whole.Mul(d, k))
		a := must[api.Rat](t, "Make")(ratio.Make(p, d))
		same(t, "Make of multiples", must[api.Rat](t, "Make")(ratio.Make(longP, longD)), a)
		same(t, "Make of negatives", must[api.Rat](t, "Make")(ratio.Make("-"+p, "-"+d)), a)
	}
}

// P2.12
func TestRounding(t *testing.T) {
	seed := source(12)
	half := frac(1, 2)
	for range 300 {
		a := seed.number(t, []int{1, 2, 9, 10, 30, 90}[seed.below(6)])
		floor := q(must[string](t, "Floor")(ratio.Floor(a)), "1")
		if compare(t, a, floor) < 0 || compare(t, a, add(t, floor, frac(1, 1))) >= 0 {
			t.Errorf("Floor(%s) is %s", shown(a), shown(floor))
		}
		nearest := q(must[string](t, "Nearest")(ratio.Nearest(a)), "1")
		far := compare(t, size(sub(t, a, nearest)), half)
		if far > 0 || far == 0 && strings.ContainsAny(nearest.Num[len(nearest.Num)-1:], "13579") {
			t.Errorf("Nearest(%s) is %s", shown(a), shown(nearest))
		}
		places := seed.below(30)
		decimal := must[string](t, "Decimal")(ratio.Decimal(a, places))
		if _, behind, point := strings.Cut(decimal, "."); len(behind) != places || point != (places > 0) {
			t.Errorf("Decimal(%s, %d) is %s", shown(a), places, decimal)
		}
		unit := must[api.Rat](t, "Pow")(ratio.Pow(frac(10, 1), -min(places, 20)))
		if places > 20 {
			unit = mul(t, unit, must[api.Rat](t, "Pow")(ratio.Pow(frac(10, 1), 20-places)))
		}
		b := must[api.Rat](t, "Parse")(ratio.Parse(decimal))
		far = compare(t, size(sub(t, a, b)), mul(t, unit, half))
		if far > 0 || far == 0 && strings.ContainsAny(decimal[len(decimal)-1:], "13579") {
			t.Errorf("Decimal(%s, %d) is %s", shown(a), places, decimal)
		}
		if strings.HasPrefix(decimal, "-") != (b.Num[0] == '-') {
			t.Errorf("Decimal(%s, %d) is %s: its sign is not that of the number", shown(a), places, decimal)
		}
	}
}

// P2.13
func TestExpansion(t *testing.T) {
	seed := source(13)
	count := 0
	for count < 150 {
		p, d := seed.below(100000)-50000, 1+seed.below(1000)
		a := frac(p, d)
		front, period, e := ratio.Expand(a)
		if e == api.ErrLarge {
			continue
		}
		count++
		whole, places, _ := strings.Cut(front, ".")
		sum := must[api.Rat](t, "Parse")(ratio.Parse(whole + "." + places + "0"))
		if period != "" {
			// The period is its digits, divided by as many nines, behind the places of the front.
			tail := must[api.Rat](t, "Make")(ratio.Make(strings.TrimLeft(period, "0"), repeat("9", len(period))+repeat("0", len(places))))
			if p < 0 {
				tail = sub(t, frac(0, 1), tail)
			}
			sum = add(t, sum, tail)
			if places != "" && places[len(places)-1] == period[len(period)-1] {
				t.Errorf("Expand(%s): the front %s could be shorter", shown(a), front)
			}
			for n := 1; n < len(period); n++ {
				if len(period)%n == 0 && period == strings.Repeat(period[:n], len(period)/n) {
					t.Errorf("Expand(%s): the period %s could be shorter", shown(a), period)
				}
			}
		} else if places != "" && strings.HasSuffix(places, "0") {
			t.Errorf("Expand(%s): the front %s could be shorter", shown(a), front)
		}
		same(t, "Expand("+shown(a)+")", sum, a)
	}
}

// P2.14
func TestPrintAndParse(t *testing.T) {
	seed := source(14)
	for range 300 {
		a := seed.number(t, []int{1, 3, 9, 10, 100, 400}[seed.below(6)])
		s := must[string](t, "Print")(ratio.Print(a))
		same(t, "Parse undoes Print", must[api.Rat](t, "Parse")(ratio.Parse(s)), a)
		slashed := seed.digits(1+seed.below(3)) + "/" + seed.digits(1+seed.below(2))
		if b, e := ratio.Parse(slashed); e == api.OK {
			expect(t, "Print of what Parse takes", text(ratio.Print(b)), fine(slashed))
		} else if e != api.ErrForm {
			t.Errorf("Parse(%s): error %d", slashed, e)
		}
		// A decimal is its digits, divided by a power of 10.
		front, places := seed.digits(1+seed.below(190)), seed.digits(1+seed.below(190))
		places = repeat("0", seed.below(11)) + places
		want := must[api.Rat](t, "Make")(ratio.Make(front+places, ten(len(places))))
		same(t, "Parse of a decimal", must[api.Rat](t, "Parse")(ratio.Parse(front+"."+places)), want)
		same(t, "Parse of a decimal below 0", must[api.Rat](t, "Parse")(ratio.Parse("-"+front+"."+places)), sub(t, frac(0, 1), want))
	}
}

// P2.15
func TestTerms(t *testing.T) {
	seed := source(15)
	for range 150 {
		a := seed.number(t, []int{1, 2, 9, 20, 60, 90}[seed.below(6)])
		terms := must[[]string](t, "Fraction")(ratio.Fraction(a))
		same(t, "OfFraction undoes Fraction", must[api.Rat](t, "OfFraction")(ratio.OfFraction(terms)), a)
		last := terms[len(terms)-1]
		if len(terms) > 1 && last == "1" {
			t.Errorf("Fraction(%s): the last term is 1", shown(a))
		}
		floor := must[string](t, "Floor")(ratio.Floor(a))
		if terms[0] != floor {
			t.Errorf("Fraction(%s): the first term is %s", shown(a), terms[0])
		}
		for _, term := range terms[1:] {
			if term == "0" || term[0] == '-' {
				t.Errorf("Fraction(%s): a term is %s", shown(a), term)
			}
		}
		for n := 1; n < len(terms); n++ {
			b := must[api.Rat](t, "OfFraction")(ratio.OfFraction(terms[:n]))
			c := must[api.Rat](t, "OfFraction")(ratio.OfFraction(terms[: n+1 : n+1]))
			x, y := must[string](t, "Mul")(whole.Mul(c.Num, b.Den)), must[string](t, "Mul")(whole.Mul(b.Num, c.Den))
			want := []string{"-1", "1"}[n%2]
			if cross := must[string](t, "Sub")(whole.Sub(x, y)); cross != want {
				t.Errorf("convergents of %s: the cross products of %s and %s differ by %s", shown(a), shown(b), shown(c), cross)
			}
		}
		// With the last term in two parts the number is the same.
		less := must[string](t, "Sub")(whole.Sub(last, "1"))
		if len(terms) < 200 {
			split := append(append([]string{}, terms[:len(terms)-1]...), less, "1")
			same(t, "a last term 1", must[api.Rat](t, "OfFraction")(ratio.OfFraction(split)), a)
		}
	}
}

// P2.16: a number between others lies between them, and is one of both ends' sums of numerators and denominators on the way down the tree, so that no simpler one does.
func TestBetweenTheorem(t *testing.T) {
	seed := source(16)
	for range 200 {
		most := []int{1, 3, 9, 20, 100, 190}[seed.below(6)]
		a, b := seed.number(t, most), seed.number(t, most)
		if seed.below(2) == 0 {
			b = add(t, a, size(must[api.Rat](t, "Make")(ratio.Make("1", seed.digits(most)))))
		}
		if order := compare(t, a, b); order == 0 {
			continue
		} else if order > 0 {
			a, b = b, a
		}
		c := must[api.Rat](t, "Between")(ratio.Between(a, b))
		if compare(t, a, c) >= 0 || compare(t, c, b) >= 0 {
			t.Errorf("Between(%s, %s) is %s", shown(a), shown(b), shown(c))
		}
		simplest(t, a, b, c)
	}
}

// simplest checks that there is no simpler number than c between a and b: both numbers of which c is the sum in the tree of fractions are no more between them, and a whole number is next to one that is not.
func simplest(t *testing.T, a, b, c api.Rat) {
	t.Helper()
	inside := func(x api.Rat) bool { return compare(t, a, x) < 0 && compare(t, x, b) < 0 }
	if c.Den == "1" {
		if c.Num != "0" {
			toward := add(t, c, frac(-compare(t, c, frac(0, 1)), 1))
			if inside(toward) {
				t.Errorf("Between(%s, %s) is %s, not %s", shown(a), shown(b), shown(c), shown(toward))
			}
		}
		return
	}
	// With p x + d y = 1, -y/x is the lower one of the two neighbours with lesser denominators.
	_, x, y, e := whole.Gcd(c.Num, c.Den)
	if e != api.OK {
		t.Fatal(e)
	}
	low := must[api.Rat](t, "Make")(ratio.Make(y, "-"+x))
	over := must[string](t, "Sub")(whole.Sub(c.Num, low.Num))
	under := must[string](t, "Sub")(whole.Sub(c.Den, low.Den))
	high := must[api.Rat](t, "Make")(ratio.Make(over, under))
	if compare(t, low, c) >= 0 || compare(t, c, high) >= 0 {
		t.Fatal("not the neighbours of", shown(c), shown(low), shown(high))
	}
	if inside(low) || inside(high) {
		t.Errorf("Between(%s, %s) is %s: there is a simpler one", shown(a), shown(b), shown(c))
	}
}

// P2.17, by trying every denominator.
func TestNearTheorem(t *testing.T) {
	seed := source(17)
	for range 60 {
		a := seed.number(t, []int{2, 4, 9, 30, 190}[seed.below(5)])
		most := 1 + seed.below(60)
		near := must[api.Rat](t, "Near")(ratio.Near(a, most))
		if d, err := strconv.Atoi(near.Den); err != nil || d > most {
			t.Errorf("Near(%s, %d) is %s", shown(a), most, shown(near))
		}
		least := size(sub(t, a, near))
		for d := 1; d <= most; d++ {
			n := must[string](t, "Nearest")(ratio.Nearest(mul(t, a, frac(d, 1))))
			b := must[api.Rat](t, "Make")(ratio.Make(n, strconv.Itoa(d)))
			order := compare(t, size(sub(t, a, b)), least)
			if order < 0 || order == 0 && d < most && len(b.Den) < len(near.Den) {
				t.Errorf("Near(%s, %d) is %s, not %s", shown(a), most, shown(near), shown(b))
			}
		}
	}
	// With a great denominator: the neighbours that are allowed are the nearest ones on both sides.
	for range 60 {
		a := seed.number(t, []int{30, 190}[seed.below(2)])
		most := 900000 + seed.below(100001)
		near := must[api.Rat](t, "Near")(ratio.Near(a, most))
		if d, err := strconv.Atoi(near.Den); err != nil || d > most {
			t.Errorf("Near(%s, %d) is %s", shown(a), most, shown(near))
		}
		mirrored := sub(t, add(t, a, a), near)
		if low, high := near, mirrored; compare(t, low, high) != 0 {
			if compare(t, low, high) > 0 {
				low, high = high, low
			}
			between := must[api.Rat](t, "Between")(ratio.Between(low, high))
			if d, err := strconv.Atoi(between.Den); err == nil && d <= most {
				t.Errorf("Near(%s, %d) is %s, not %s", shown(a), most, shown(near), shown(between))
			}
		}
	}
}
