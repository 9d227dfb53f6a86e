package dim_test

import (
	"strconv"
	"strings"
	"testing"

	"metewand/api"
	"metewand/dim"
	"metewand/ratio"
)

// rat returns the number of a text like -3/2, in lowest terms or not.
func rat(text string) api.Rat {
	num, den, is := strings.Cut(text, "/")
	if !is {
		den = "1"
	}
	return api.Rat{Num: num, Den: den}
}

// pw returns the powers of a text like "kg m^2 s^-3/2", valid or not.
func pw(text string) []api.Power {
	var out []api.Power
	for _, word := range strings.Fields(text) {
		base, exponent, is := strings.Cut(word, "^")
		if !is {
			exponent = "1"
		}
		out = append(out, api.Power{Base: base, Exp: rat(exponent)})
	}
	return out
}

// dims returns the dimensions of texts.
func dims(texts ...string) [][]api.Power {
	var out [][]api.Power
	for _, text := range texts {
		out = append(out, pw(text))
	}
	return out
}

// rats returns the numbers of a text like "1 -3/2".
func rats(text string) []api.Rat {
	var out []api.Rat
	for _, word := range strings.Fields(text) {
		out = append(out, rat(word))
	}
	return out
}

// stand returns what stands for bases, of texts like "m = cm".
func stand(texts ...string) []api.DimBase {
	var out []api.DimBase
	for _, text := range texts {
		base, d, _ := strings.Cut(text, " =")
		out = append(out, api.DimBase{Base: base, Dim: pw(d)})
	}
	return out
}

// shown is a number as the texts of this file have it.
func shown(n api.Rat) string {
	if n.Den == "1" {
		return n.Num
	}
	return n.Num + "/" + n.Den
}

// words is powers as the texts of this file have them.
func words(d []api.Power) string {
	var out []string
	for _, p := range d {
		word := p.Base + "^" + shown(p.Exp)
		out = append(out, strings.TrimSuffix(word, "^1"))
	}
	return strings.Join(out, " ")
}

// brief shortens a text for a message.
func brief(s string) string {
	if len(s) <= 80 {
		return s
	}
	return s[:50] + ".. (" + strconv.Itoa(len(s)) + " bytes)"
}

// outcome is the result of a call as a text, and its error.
type outcome struct {
	text string
	e    api.Errno
}

func only(e api.Errno) outcome                  { return outcome{"", e} }
func fine(text string) outcome                  { return outcome{text, api.OK} }
func none(e api.Errno) outcome                  { return outcome{"", e} }
func text(s string, e api.Errno) outcome        { return outcome{s, e} }
func powers(d []api.Power, e api.Errno) outcome { return outcome{words(d), e} }
func repeat(digit string, times int) string     { return strings.Repeat(digit, times) }
func ten(n int) string                          { return "1" + repeat("0", n) }
func numbers(l []api.Rat, e api.Errno) outcome  { return outcome{joined(l), e} }
func lists(groups [][]api.Rat, e api.Errno) outcome {
	var out []string
	for _, l := range groups {
		out = append(out, joined(l))
	}
	return outcome{strings.Join(out, "; "), e}
}

func joined(l []api.Rat) string {
	var out []string
	for _, n := range l {
		out = append(out, shown(n))
	}
	return strings.Join(out, " ")
}

// number, truth and count have nothing as a text for the results that stand beside an error.
func number(n api.Rat, e api.Errno) outcome {
	if n == (api.Rat{}) {
		return outcome{"", e}
	}
	return outcome{shown(n), e}
}

func truth(is bool, e api.Errno) outcome {
	if !is && e != api.OK {
		return outcome{"", e}
	}
	return outcome{strconv.FormatBool(is), e}
}

func count(n int, e api.Errno) outcome {
	if n == 0 && e != api.OK {
		return outcome{"", e}
	}
	return outcome{strconv.Itoa(n), e}
}

// expect checks what a call returns.
func expect(t *testing.T, call string, got, want outcome) {
	t.Helper()
	if got != want {
		t.Errorf("%s: got %s, error %d; want %s, error %d", brief(call), brief(got.text), got.e, brief(want.text), want.e)
	}
}

// must returns the result of a call that has to be without an error.
func must[T any](t *testing.T, call string) func(result T, e api.Errno) T {
	return func(result T, e api.Errno) T {
		t.Helper()
		if e != api.OK {
			t.Fatalf("%s: error %d", call, e)
		}
		return result
	}
}

func mul(t *testing.T, a, b []api.Power) []api.Power {
	t.Helper()
	return must[[]api.Power](t, "Mul")(dim.Mul(a, b))
}

func div(t *testing.T, a, b []api.Power) []api.Power {
	t.Helper()
	return must[[]api.Power](t, "Div")(dim.Div(a, b))
}

func pow(t *testing.T, a []api.Power, n api.Rat) []api.Power {
	t.Helper()
	return must[[]api.Power](t, "Pow")(dim.Pow(a, n))
}

func product(t *testing.T, l [][]api.Power, exps []api.Rat) []api.Power {
	t.Helper()
	return must[[]api.Power](t, "Product")(dim.Product(l, exps))
}

func rank(t *testing.T, l [][]api.Power) int {
	t.Helper()
	return must[int](t, "Rank")(dim.Rank(l))
}

func same(t *testing.T, what string, a, b []api.Power) {
	t.Helper()
	if is, e := dim.Same(a, b); !is || e != api.OK || words(a) != words(b) {
		t.Errorf("%s: %s is not %s (%t, error %d)", what, brief(words(a)), brief(words(b)), is, e)
	}
}

// source is a row of numbers that look like chance, and are the same in each run.
type source uint64

func (s *source) below(n int) int {
	*s = *s*6364136223846793005 + 1442695040888963407
	return int(uint64(*s>>33) % uint64(n))
}

// number returns a number with a numerator of at most so much, and a small denominator.
func (s *source) number(most int) api.Rat {
	n, _ := ratio.Make(strconv.Itoa(s.below(2*most+1)-most), strconv.Itoa(1+s.below(4)))
	return n
}

// long returns a number of about so many digits.
func (s *source) long(digits int) api.Rat {
	var num, den []byte
	for range digits {
		num = append(num, byte('1'+s.below(9)))
		den = append(den, byte('1'+s.below(9)))
	}
	n, _ := ratio.Make(string(num), string(den))
	return n
}

// bases are those that dimensions by chance have.
var bases = []string{"a", "cd", "kg", "m", "metre", "s", "zzzzzzzz"}

// dimension returns a dimension of some of the bases.
func (s *source) dimension(t *testing.T, most int) []api.Power {
	var out []api.Power
	for _, base := range bases[:1+s.below(len(bases))] {
		n := s.number(most)
		if s.below(2) == 0 && n.Num != "0" {
			out = append(out, api.Power{Base: base, Exp: n})
		}
	}
	if e := dim.Check(out); e != api.OK {
		t.Fatalf("%s is not valid: %d", words(out), e)
	}
	return out
}

// list returns some dimensions; some of them are products of powers of others.
func (s *source) list(t *testing.T, most int) [][]api.Power {
	var out [][]api.Power
	for range s.below(most + 1) {
		d := s.dimension(t, 2)
		if len(out) > 1 && s.below(3) == 0 {
			d = mul(t, pow(t, out[s.below(len(out))], s.number(3)), pow(t, out[s.below(len(out))], s.number(3)))
		}
		out = append(out, d)
	}
	return out
}

// exps returns one number for each element of a list.
func (s *source) exps(l [][]api.Power) []api.Rat {
	var out []api.Rat
	for range l {
		out = append(out, s.number(4))
	}
	return out
}

// minors returns the rank of a list of dimensions with whole exponents as the size of the greatest determinant that is not 0, which shares nothing with a reduction.
func minors(l [][]api.Power) int {
	table := make([][]int, len(l))
	for i, d := range l {
		table[i] = make([]int, len(bases))
		for j, base := range bases {
			n, _ := dim.Exp(d, base)
			table[i][j], _ = strconv.Atoi(n.Num)
		}
	}
	best := 0
	for rows := range 1 << len(table) {
		for columns := range 1 << len(bases) {
			picked := pick(table, rows, columns)
			if picked != nil && len(picked) > best && determinant(picked) != 0 {
				best = len(picked)
			}
		}
	}
	return best
}

// pick returns the part of a table at some rows and columns, if it is a square.
func pick(table [][]int, rows, columns int) [][]int {
	var out [][]int
	for i, row := range table {
		if rows>>i&1 == 0 {
			continue
		}
		var part []int
		for j, n := range row {
			if columns>>j&1 == 1 {
				part = append(part, n)
			}
		}
		out = append(out, part)
	}
	if len(out) == 0 || len(out) != len(out[0]) {
		return nil
	}
	return out
}

func determinant(a [][]int) int {
	if len(a) == 1 {
		return a[0][0]
	}
	sum, sign := 0, 1
	for j := range a {
		var rest [][]int
		for _, row := range a[1:] {
			rest = append(rest, append(append([]int{}, row[:j]...), row[j+1:]...))
		}
		sum += sign * a[0][j] * determinant(rest)
		sign = -sign
	}
	return sum
}

// shownList is a list of dimensions as a message has it.
func shownList(l [][]api.Power) string {
	var out []string
	for _, d := range l {
		out = append(out, words(d))
	}
	return strings.Join(out, ", ")
}

// added returns the sum of two numbers as a text.
func added(t *testing.T, a, b string) string {
	t.Helper()
	return shown(must[api.Rat](t, "Add")(ratio.Add(rat(a), rat(b))))
}
