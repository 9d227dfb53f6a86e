package dim_test

import (
	"slices"
	"strconv"
	"strings"
	"testing"

	"metewand/api"
	"metewand/dim"
	"metewand/ratio"
)

const rounds = 300

func plus(t *testing.T, a, b api.Rat) api.Rat {
	t.Helper()
	return must[api.Rat](t, "Add")(ratio.Add(a, b))
}

func times(t *testing.T, a, b api.Rat) api.Rat {
	t.Helper()
	return must[api.Rat](t, "Mul")(ratio.Mul(a, b))
}

// P3.9, with exponents of all lengths
func TestGroup(t *testing.T) {
	seed := source(9)
	for range rounds {
		a, b, c := seed.dimension(t, 9), seed.dimension(t, 9), seed.dimension(t, 9)
		if seed.below(3) == 0 {
			a = pow(t, a, seed.long(20))
			b = pow(t, b, seed.long(30))
		}
		m, n := seed.number(9), seed.number(9)
		same(t, "a b is b a", mul(t, a, b), mul(t, b, a))
		same(t, "(a b) c is a (b c)", mul(t, mul(t, a, b), c), mul(t, a, mul(t, b, c)))
		same(t, "a b / b is a", div(t, mul(t, a, b), b), a)
		same(t, "a / b b is a", mul(t, div(t, a, b), b), a)
		same(t, "a / a is nothing", div(t, a, a), nil)
		same(t, "(a b)^n is a^n b^n", pow(t, mul(t, a, b), n), mul(t, pow(t, a, n), pow(t, b, n)))
		same(t, "a^(m+n) is a^m a^n", pow(t, a, plus(t, m, n)), mul(t, pow(t, a, m), pow(t, a, n)))
		same(t, "a^(m n) is (a^m)^n", pow(t, a, times(t, m, n)), pow(t, pow(t, a, m), n))
		same(t, "a b^-1 is a / b", mul(t, a, pow(t, b, rat("-1"))), div(t, a, b))
		same(t, "Product", product(t, [][]api.Power{a, b, c}, []api.Rat{m, n, rat("1")}), mul(t, mul(t, pow(t, a, m), pow(t, b, n)), c))
		for _, base := range bases {
			x, _ := dim.Exp(a, base)
			y, _ := dim.Exp(b, base)
			expect(t, "Exp of a product", number(dim.Exp(mul(t, a, b), base)), number(plus(t, x, y), api.OK))
		}
	}
}

// P3.10
func TestPrintAndParse(t *testing.T) {
	seed := source(10)
	for range rounds {
		d := seed.dimension(t, 40)
		s := must[string](t, "Print")(dim.Print(d))
		same(t, "Parse of "+s, must[[]api.Power](t, "Parse")(dim.Parse(s)), d)
		if d == nil {
			continue
		}
		parts := strings.Split(s+"*"+s+"*m^0*s^-1", "*")
		for i := range parts {
			j := seed.below(i + 1)
			parts[i], parts[j] = parts[j], parts[i]
		}
		mixed := strings.Join(parts, "*")
		parsed := must[[]api.Power](t, "Parse")(dim.Parse(mixed))
		same(t, "Parse of "+mixed, parsed, div(t, mul(t, d, d), pw("s")))
		printed := must[string](t, "Print")(dim.Print(parsed))
		same(t, "Parse of "+printed, must[[]api.Power](t, "Parse")(dim.Parse(printed)), parsed)
	}
}

// dependent returns which dimensions of a list make the rank no greater.
func dependent(t *testing.T, l [][]api.Power) []bool {
	t.Helper()
	var out []bool
	for i := range l {
		out = append(out, rank(t, l[:i+1]) == rank(t, l[:i]))
	}
	return out
}

// P3.11
func TestExpressed(t *testing.T) {
	seed := source(11)
	var found, missing int
	for range rounds {
		l := seed.list(t, 6)
		d := seed.dimension(t, 2)
		if seed.below(2) == 0 {
			d = product(t, l, seed.exps(l))
		}
		exps, e := dim.Express(l, d)
		if greater := rank(t, append(l[:len(l):len(l)], d)) > rank(t, l); greater {
			missing++
			expect(t, "Express("+shownList(l)+"; "+words(d)+")", numbers(exps, e), none(api.ErrNone))
			continue
		}
		found++
		if e != api.OK || len(exps) != len(l) {
			t.Fatalf("Express(%s; %s): %v, error %d", shownList(l), words(d), exps, e)
		}
		same(t, "Product with the exponents of Express", product(t, l, exps), d)
		for i, is := range dependent(t, l) {
			if is && shown(exps[i]) != "0" {
				t.Errorf("Express(%s; %s): %s, but %d is dependent", shownList(l), words(d), joined(exps), i)
			}
		}
	}
	if found < 50 || missing < 50 {
		t.Errorf("only %d and %d lists", found, missing)
	}
}

// P3.12, and P3.8: each group is 1 for its dependent dimension, and 0 for the others.
func TestGroupsOfLists(t *testing.T) {
	seed := source(12)
	for range rounds {
		l := seed.list(t, 7)
		groups := must[[][]api.Rat](t, "Groups")(dim.Groups(l))
		if rank(t, l)+len(groups) != len(l) {
			t.Errorf("%s: rank %d, and %d groups", shownList(l), rank(t, l), len(groups))
		}
		var places []int
		for i, is := range dependent(t, l) {
			if is {
				places = append(places, i)
			}
		}
		for k, group := range groups {
			same(t, "a group of "+shownList(l), product(t, l, group), nil)
			for j, place := range places {
				if want := map[bool]string{true: "1", false: "0"}[j == k]; shown(group[place]) != want {
					t.Errorf("%s: group %d is %s, but %d is dependent", shownList(l), k, joined(group), place)
				}
			}
			for i, n := range group {
				if i > places[k] && shown(n) != "0" {
					t.Errorf("%s: group %d is %s, with one behind it", shownList(l), k, joined(group))
				}
			}
		}
		sumOfGroups(t, &seed, l, groups, places)
	}
}

// sumOfGroups checks that exponents by which a product has no dimension are those of the groups, added up.
func sumOfGroups(t *testing.T, seed *source, l [][]api.Power, groups [][]api.Rat, places []int) {
	t.Helper()
	exps := seed.exps(l)
	for i := range exps {
		if !slices.Contains(places, i) {
			exps[i] = rat("0")
		}
	}
	rest := must[[]api.Rat](t, "Express")(dim.Express(l, pow(t, product(t, l, exps), rat("-1"))))
	sum := rats(strings.Repeat("0 ", len(l)))
	for i := range exps {
		exps[i] = plus(t, exps[i], rest[i])
		for k, group := range groups {
			sum[i] = plus(t, sum[i], times(t, exps[places[k]], group[i]))
		}
	}
	same(t, "exponents without a dimension", product(t, l, exps), nil)
	if joined(sum) != joined(exps) {
		t.Errorf("%s: %s is not the sum %s", shownList(l), joined(exps), joined(sum))
	}
}

// P3.13
func TestOrder(t *testing.T) {
	seed := source(13)
	for range rounds {
		l := seed.list(t, 7)
		n := rank(t, l)
		mixed := slices.Clone(l)
		for i := range mixed {
			j := seed.below(i + 1)
			mixed[i], mixed[j] = mixed[j], mixed[i]
		}
		if rank(t, mixed) != n {
			t.Errorf("%s: rank %d, in another order %d", shownList(l), n, rank(t, mixed))
		}
		more := append(l[:len(l):len(l)], seed.dimension(t, 3))
		if m := rank(t, more); m < n || m > n+1 {
			t.Errorf("%s: rank %d, with one more %d", shownList(more), n, m)
		}
		more[len(l)] = product(t, l, seed.exps(l))
		if rank(t, more) != n {
			t.Errorf("%s: rank %d, with a product %d", shownList(more), n, rank(t, more))
		}
	}
}

// P3.6, by determinants
func TestRankByDeterminants(t *testing.T) {
	seed := source(6)
	for range rounds / 3 {
		var l [][]api.Power
		for range 1 + seed.below(5) {
			var d []api.Power
			for _, base := range bases {
				if n := seed.below(4) - 1; n != 0 {
					d = append(d, api.Power{Base: base, Exp: rat([]string{"-1", "", "1", "2"}[n+1])})
				}
			}
			if len(l) > 1 && seed.below(2) == 0 {
				d = div(t, l[0], pow(t, l[1], rat("2")))
			}
			l = append(l, d)
		}
		if got, want := rank(t, l), minors(l); got != want {
			t.Errorf("Rank of %s: got %d, want %d", shownList(l), got, want)
		}
	}
}

// P3.14
func TestRebased(t *testing.T) {
	seed := source(14)
	rebase := func(d []api.Power, stand []api.DimBase) []api.Power {
		t.Helper()
		return must[[]api.Power](t, "Rebase")(dim.Rebase(d, stand))
	}
	for range rounds {
		first, second := seed.stand(t), seed.stand(t)
		a, b, n := seed.dimension(t, 9), seed.dimension(t, 9), seed.number(5)
		same(t, "Rebase of a product", rebase(mul(t, a, b), first), mul(t, rebase(a, first), rebase(b, first)))
		same(t, "Rebase of a power", rebase(pow(t, a, n), first), pow(t, rebase(a, first), n))
		same(t, "Rebase without a list", rebase(a, nil), a)
		var both []api.DimBase
		for _, s := range first {
			both = append(both, api.DimBase{Base: s.Base, Dim: rebase(s.Dim, second)})
		}
		for _, s := range second {
			if !slices.ContainsFunc(first, func(f api.DimBase) bool { return f.Base == s.Base }) {
				both = append(both, s)
			}
		}
		same(t, "one Rebase after the other", rebase(rebase(a, first), second), rebase(a, both))
	}
}

// stand returns dimensions for some bases.
func (s *source) stand(t *testing.T) []api.DimBase {
	var out []api.DimBase
	for _, base := range bases {
		if s.below(2) == 0 {
			out = append(out, api.DimBase{Base: base, Dim: s.dimension(t, 3)})
		}
	}
	return out
}

// Long exponents, with which what is on the way is much longer than a result.
func TestLongLists(t *testing.T) {
	seed := source(7)
	for range 5 {
		var l [][]api.Power
		for range 4 {
			var d []api.Power
			for _, base := range bases[:4] {
				d = append(d, api.Power{Base: base, Exp: seed.long(20)})
			}
			l = append(l, d)
		}
		if rank(t, l) != 4 {
			t.Errorf("Rank of %s is %d", shownList(l), rank(t, l))
		}
		exps := seed.exps(l)
		d := product(t, l, exps)
		expect(t, "Express with long exponents", numbers(dim.Express(l, d)), fine(joined(exps)))
		longer := append(l, d)
		var group []string
		for _, n := range exps {
			group = append(group, shown(times(t, n, rat("-1"))))
		}
		expect(t, "Groups with long exponents", lists(dim.Groups(longer)), fine(strings.Join(group, " ")+" 1"))
	}
}

// Many dimensions of many bases, which would take too long if numbers on the way were much longer than they have to be.
func TestManyBases(t *testing.T) {
	seed := source(30)
	const size = 30
	var l [][]api.Power
	for range size {
		var d []api.Power
		for i := range size {
			d = append(d, api.Power{Base: string([]byte{byte('a' + i/26), byte('a' + i%26)}), Exp: rat(strconv.Itoa(1 + seed.below(9)))})
		}
		l = append(l, d)
	}
	exps := seed.exps(l)
	expect(t, "Rank of many", count(dim.Rank(append(l, product(t, l, exps)))), fine(strconv.Itoa(size)))
	expect(t, "Express by many", numbers(dim.Express(l, product(t, l, exps))), fine(joined(exps)))
}
