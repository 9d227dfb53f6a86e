package unify_test

import (
	"slices"
	"strconv"
	"strings"
	"testing"

	"metewand/api"
	"metewand/dim"
	"metewand/ratio"
	"metewand/unify"
)

// rat returns the number of a text like -3/2, in lowest terms or not.
func rat(text string) api.Rat {
	num, den, is := strings.Cut(text, "/")
	if !is {
		den = "1"
	}
	return api.Rat{Num: num, Den: den}
}

// rats returns the numbers of a text like "1 -3/2".
func rats(text string) []api.Rat {
	var out []api.Rat
	for _, word := range strings.Fields(text) {
		out = append(out, rat(word))
	}
	return out
}

// pw returns the powers of a text like "kg m^2 s^-3/2", valid or not.
func pw(text string) []api.Power {
	var out []api.Power
	for _, word := range strings.Fields(text) {
		base, exponent, is := strings.Cut(word, "^")
		if !is {
			exponent = "1"
		}
		out = append(out, api.Power{Base: base, Exp: rat(exponent)})
	}
	return out
}

// dims returns the dimensions of texts.
func dims(texts ...string) [][]api.Power {
	var out [][]api.Power
	for _, text := range texts {
		out = append(out, pw(text))
	}
	return out
}

// eq returns the equation of a text like "1 -1 0; m^-1".
func eq(text string) api.UnifyEq {
	exps, d, _ := strings.Cut(text, ";")
	return api.UnifyEq{Exps: rats(exps), Dim: pw(d)}
}

// eqs returns the equations of texts.
func eqs(texts ...string) []api.UnifyEq {
	var out []api.UnifyEq
	for _, text := range texts {
		out = append(out, eq(text))
	}
	return out
}

// shown is a number as the texts of this file have it.
func shown(n api.Rat) string {
	if n.Den == "1" {
		return n.Num
	}
	return n.Num + "/" + n.Den
}

func joined(l []api.Rat) string {
	var out []string
	for _, n := range l {
		out = append(out, shown(n))
	}
	return strings.Join(out, " ")
}

// words is powers as the texts of this file have them.
func words(d []api.Power) string {
	var out []string
	for _, p := range d {
		out = append(out, strings.TrimSuffix(p.Base+"^"+shown(p.Exp), "^1"))
	}
	return strings.Join(out, " ")
}

// shownEqs is equations as the texts of this file have them, with a stroke between them.
func shownEqs(l []api.UnifyEq) string {
	var out []string
	for _, e := range l {
		out = append(out, strings.TrimSpace(joined(e.Exps)+"; "+words(e.Dim)))
	}
	return strings.Join(out, " | ")
}

func shownDims(l [][]api.Power) string {
	var out []string
	for _, d := range l {
		out = append(out, words(d))
	}
	return strings.Join(out, ", ")
}

// brief shortens a text for a message.
func brief(s string) string {
	if len(s) <= 300 {
		return s
	}
	return s[:250] + ".. (" + strconv.Itoa(len(s)) + " bytes)"
}

// outcome is the result of a call as a text, and its error.
type outcome struct {
	text string
	e    api.Errno
}

func only(e api.Errno) outcome                         { return outcome{"", e} }
func fine(text string) outcome                         { return outcome{text, api.OK} }
func none(e api.Errno) outcome                         { return outcome{"", e} }
func answers(l []api.UnifyEq, e api.Errno) outcome     { return outcome{shownEqs(l), e} }
func powers(d []api.Power, e api.Errno) outcome        { return outcome{words(d), e} }
func solution(l [][]api.Power, e api.Errno) outcome    { return outcome{shownDims(l), e} }
func exponents(l []api.Rat, e api.Errno) outcome       { return outcome{joined(l), e} }
func repeat(digit string, times int) string            { return strings.Repeat(digit, times) }
func ten(n int) string                                 { return "1" + repeat("0", n) }
func fillEqs(e api.UnifyEq, times int) []api.UnifyEq   { return slices.Repeat([]api.UnifyEq{e}, times) }
func blank(n int) string                               { return strings.TrimSpace(repeat("0 ", n)) }
func single(n, place int, exp string) string           { return several(n, map[int]string{place: exp}) }
func pair(n, one, other int, a, b string) string       { return several(n, map[int]string{one: a, other: b}) }
func follows(n int, l []api.UnifyEq, s string) outcome { return truth(unify.Follows(n, l, eq(s))) }

// several is the exponents of n variables, of which some are not 0.
func several(n int, exps map[int]string) string {
	var out []string
	for place := range n {
		exp, is := exps[place]
		if !is {
			exp = "0"
		}
		out = append(out, exp)
	}
	return strings.Join(out, " ")
}

func list(l []int, e api.Errno) outcome {
	var out []string
	for _, n := range l {
		out = append(out, strconv.Itoa(n))
	}
	return outcome{strings.Join(out, " "), e}
}

func truth(is bool, e api.Errno) outcome {
	if !is && e != api.OK {
		return outcome{"", e}
	}
	return outcome{strconv.FormatBool(is), e}
}

// expect checks what a call returns.
func expect(t *testing.T, call string, got, want outcome) {
	t.Helper()
	if got != want {
		t.Errorf("%s: got %s, error %d; want %s, error %d", brief(call), brief(got.text), got.e, brief(want.text), want.e)
	}
}

// must returns the result of a call that has to be without an error.
func must[T any](t *testing.T, call string) func(result T, e api.Errno) T {
	return func(result T, e api.Errno) T {
		t.Helper()
		if e != api.OK {
			t.Fatalf("%s: error %d", call, e)
		}
		return result
	}
}

// source is a row of numbers that look like chance, and are the same in each run.
type source uint64

func (s *source) below(n int) int {
	*s = *s*6364136223846793005 + 1442695040888963407
	return int(uint64(*s>>33) % uint64(n))
}

// number returns a number with a numerator of at most so much, and a small denominator.
func (s *source) number(most int) api.Rat {
	n, _ := ratio.Make(strconv.Itoa(s.below(2*most+1)-most), strconv.Itoa(1+s.below(3)))
	return n
}

// some returns a number that is not 0.
func (s *source) some(most int) api.Rat {
	for {
		if n := s.number(most); n.Num != "0" {
			return n
		}
	}
}

// long returns a number of about so many digits.
func (s *source) long(digits int) api.Rat {
	var num, den []byte
	for range digits {
		num = append(num, byte('1'+s.below(9)))
		den = append(den, byte('1'+s.below(9)))
	}
	n, _ := ratio.Make(string(num), string(den))
	return n
}

// bases are those that dimensions by chance have.
var bases = []string{"kg", "m", "s"}

// dimension returns a dimension of some of the bases.
func (s *source) dimension(most int) []api.Power {
	var out []api.Power
	for _, base := range bases {
		if n := s.number(most); s.below(2) == 0 && n.Num != "0" {
			out = append(out, api.Power{Base: base, Exp: n})
		}
	}
	return out
}

// dimensions returns some dimensions.
func (s *source) dimensions(n int) [][]api.Power {
	var out [][]api.Power
	for range n {
		out = append(out, s.dimension(3))
	}
	return out
}

// equation returns an equation of few of n variables.
func (s *source) equation(n int) api.UnifyEq {
	e := api.UnifyEq{Exps: rats(blank(n)), Dim: s.dimension(1)}
	for range 1 + s.below(3) {
		if n > 0 {
			e.Exps[s.below(n)] = s.number(2)
		}
	}
	return e
}

// solved makes an equation hold with a solution.
func solved(t *testing.T, e api.UnifyEq, dims [][]api.Power) api.UnifyEq {
	t.Helper()
	product := must[[]api.Power](t, "Product")(dim.Product(dims, e.Exps))
	return api.UnifyEq{Exps: e.Exps, Dim: must[[]api.Power](t, "Div")(dim.Div(nil, product))}
}

// system returns at most so many equations. Many systems have solutions, and many equations of the others hold with the same dimensions.
func (s *source) system(t *testing.T, n, most int) []api.UnifyEq {
	t.Helper()
	var out []api.UnifyEq
	dims := s.dimensions(n)
	wrong := s.below(3)
	for range s.below(2) + s.below(most) {
		e := s.equation(n)
		if s.below(4) >= wrong {
			e = solved(t, e, dims)
		}
		if len(out) > 0 && s.below(6) == 0 {
			e = raised(t, out[s.below(len(out))], s.some(3))
		}
		out = append(out, e)
	}
	return out
}

// raised returns an equation with both sides to a power.
func raised(t *testing.T, e api.UnifyEq, power api.Rat) api.UnifyEq {
	t.Helper()
	return product(t, len(e.Exps), []api.UnifyEq{e}, []api.Rat{power})
}

// product returns the product of equations with n variables, each with both sides to a power.
func product(t *testing.T, n int, l []api.UnifyEq, powers []api.Rat) api.UnifyEq {
	t.Helper()
	var dims [][]api.Power
	out := api.UnifyEq{Exps: rats(blank(n))}
	for at, e := range l {
		dims = append(dims, e.Dim)
		for variable, exp := range e.Exps {
			term := must[api.Rat](t, "Mul")(ratio.Mul(exp, powers[at]))
			out.Exps[variable] = must[api.Rat](t, "Add")(ratio.Add(out.Exps[variable], term))
		}
	}
	out.Dim = must[[]api.Power](t, "Product")(dim.Product(dims, powers))
	return out
}

// powers returns one number for each equation.
func (s *source) powers(l []api.UnifyEq) []api.Rat {
	var out []api.Rat
	for range l {
		out = append(out, s.number(3))
	}
	return out
}

// shuffled returns a list in another order.
func shuffled[T any](s *source, l []T) []T {
	out := slices.Clone(l)
	for i := range out {
		j := s.below(i + 1)
		out[i], out[j] = out[j], out[i]
	}
	return out
}

// part returns the equations with the numbers of a list.
func part(l []api.UnifyEq, numbers []int) []api.UnifyEq {
	var out []api.UnifyEq
	for _, n := range numbers {
		out = append(out, l[n])
	}
	return out
}

// contradict returns whether equations have no solution; if they have one, it is looked at.
func contradict(t *testing.T, n int, l []api.UnifyEq) bool {
	t.Helper()
	free, e := unify.Free(n, l)
	if e == api.ErrClash {
		return true
	}
	if dims, e := unify.Instance(n, l, make([][]api.Power, len(free))); e != api.ErrLarge {
		must[[][]api.Power](t, "Instance")(dims, e)
		expect(t, "Holds of an Instance of "+shownEqs(l), truth(unify.Holds(n, l, dims)), fine("true"))
	}
	return false
}

// shortest returns the least list of the fewest equations that contradict each other, by looking at all lists.
func shortest(t *testing.T, n int, l []api.UnifyEq) []int {
	t.Helper()
	var found []int
	for chosen := range 1 << len(l) {
		var numbers []int
		for at := range l {
			if chosen>>at&1 == 1 {
				numbers = append(numbers, at)
			}
		}
		better := found == nil || len(numbers) < len(found) || len(numbers) == len(found) && slices.Compare(numbers, found) < 0
		if better && contradict(t, n, part(l, numbers)) {
			found = numbers
		}
	}
	return found
}

// modulus is a prime by which the small numbers of tables are counted.
const modulus = 1_000_000_007

// table returns the exponents of equations, which are whole: of the variables, and of the bases.
func table(n int, l []api.UnifyEq) [][]int {
	var out [][]int
	for _, e := range l {
		row := make([]int, n+len(bases))
		for at, exp := range e.Exps {
			row[at], _ = strconv.Atoi(exp.Num)
		}
		for _, p := range e.Dim {
			row[n+slices.Index(bases, p.Base)], _ = strconv.Atoi(p.Exp.Num)
		}
		out = append(out, row)
	}
	return out
}

// contradictory returns whether a sum of multiples of rows has something behind the first n columns, but nothing in these.
func contradictory(n int, rows [][]int) bool {
	var kept [][]int
	for _, r := range rows {
		row := slices.Clone(r)
		for _, other := range kept {
			lead := slices.IndexFunc(other, func(x int) bool { return x != 0 })
			for at, factor := 0, row[lead]; at < len(row); at++ {
				row[at] = ((row[at]*other[lead]-factor*other[at])%modulus + modulus) % modulus
			}
		}
		lead := slices.IndexFunc(row, func(x int) bool { return x != 0 })
		if lead >= n {
			return true
		}
		if lead >= 0 {
			kept = append(kept, row)
		}
	}
	return false
}

// first returns the first list of so many equations, in order, that goes on like a given one and contradicts itself.
func first(n int, rows [][]int, begin []int, size int) []int {
	if size == 0 {
		var chosen [][]int
		for _, at := range begin {
			chosen = append(chosen, rows[at])
		}
		if contradictory(n, chosen) {
			return begin
		}
		return nil
	}
	next := 0
	if len(begin) > 0 {
		next = begin[len(begin)-1] + 1
	}
	for ; next+size <= len(rows); next++ {
		if found := first(n, rows, append(begin[:len(begin):len(begin)], next), size-1); found != nil {
			return found
		}
	}
	return nil
}

// dense returns equations with whole exponents, of which most hold with the same dimensions.
func (s *source) dense(t *testing.T, n, many, most, wrong int) []api.UnifyEq {
	t.Helper()
	var dims [][]api.Power
	for range n {
		dims = append(dims, pw("m^"+strconv.Itoa(1+s.below(3))))
	}
	var out []api.UnifyEq
	for range many {
		var e api.UnifyEq
		for range n {
			e.Exps = append(e.Exps, rat(strconv.Itoa(s.below(2*most+1)-most)))
		}
		e = solved(t, e, dims)
		if s.below(wrong) == 0 {
			e.Dim = pw("kg^" + strconv.Itoa(1+s.below(3)))
		}
		out = append(out, e)
	}
	return out
}

// stretched returns equations whose exponents of each variable are multiplied by a number of so many digits. The same ones contradict each other.
func (s *source) stretched(t *testing.T, l []api.UnifyEq, digits int) []api.UnifyEq {
	t.Helper()
	var factors []api.Rat
	for range l[0].Exps {
		factors = append(factors, api.Rat{Num: s.long(digits).Num, Den: "1"})
	}
	var out []api.UnifyEq
	for _, e := range l {
		other := api.UnifyEq{Dim: e.Dim}
		for at, exp := range e.Exps {
			other.Exps = append(other.Exps, must[api.Rat](t, "Mul")(ratio.Mul(exp, factors[at])))
		}
		out = append(out, other)
	}
	return out
}
