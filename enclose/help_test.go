package enclose_test

import (
	"math"
	"slices"
	"strconv"
	"strings"
	"testing"

	"metewand/api"
	"metewand/enclose"
	"metewand/exact"
	"metewand/ratio"
)

// rat returns the number of a text like -3/2, in lowest terms or not.
func rat(text string) api.Rat {
	num, den, is := strings.Cut(text, "/")
	if !is {
		den = "1"
	}
	return api.Rat{Num: num, Den: den}
}

// enc returns the enclosure of a text like -3/2..2, or of one like 2, valid or not.
func enc(text string) api.Enclosure {
	lo, hi, is := strings.Cut(text, "..")
	if !is {
		hi = lo
	}
	return api.Enclosure{Lo: rat(lo), Hi: rat(hi)}
}

// shown is a number as the texts of this file have it.
func shown(n api.Rat) string {
	if n.Den == "1" {
		return n.Num
	}
	return n.Num + "/" + n.Den
}

// text is an enclosure as the texts of this file have it, with both ends; the zero value is nothing.
func text(a api.Enclosure) string {
	if a == (api.Enclosure{}) {
		return ""
	}
	return shown(a.Lo) + ".." + shown(a.Hi)
}

func texts(l []api.Enclosure) string {
	var out []string
	for _, a := range l {
		out = append(out, text(a))
	}
	return strings.Join(out, " ")
}

// brief shortens a text for a message.
func brief(s string) string {
	if len(s) <= 300 {
		return s
	}
	return s[:250] + ".. (" + strconv.Itoa(len(s)) + " bytes)"
}

// outcome is the result of a call as a text, and its error.
type outcome struct {
	text string
	e    api.Errno
}

func only(e api.Errno) outcome                    { return outcome{"", e} }
func fine(text string) outcome                    { return outcome{text, api.OK} }
func none(e api.Errno) outcome                    { return outcome{"", e} }
func one(a api.Enclosure, e api.Errno) outcome    { return outcome{text(a), e} }
func list(l []api.Enclosure, e api.Errno) outcome { return outcome{texts(l), e} }
func repeat(digit string, times int) string       { return strings.Repeat(digit, times) }
func ten(n int) string                            { return "1" + repeat("0", n) }
func joined(lo, hi api.Rat) api.Enclosure         { return api.Enclosure{Lo: lo, Hi: hi} }
func point(x api.Rat) api.Enclosure               { return joined(x, x) }
func whole(n int) api.Rat                         { return rat(strconv.Itoa(n)) }
func decimal(n int, places int) api.Rat           { return number(ratio.Make(strconv.Itoa(n), ten(places))) }
func negative(a api.Enclosure) api.Enclosure {
	return joined(minus(whole(0), a.Hi), minus(whole(0), a.Lo))
}
func truth(is bool, e api.Errno) outcome {
	if !is && e != api.OK {
		return outcome{"", e}
	}
	return outcome{strconv.FormatBool(is), e}
}

func verdict(v int, e api.Errno) outcome {
	return outcome{map[int]string{0: "", api.Yes: "yes", api.No: "no", api.Maybe: "maybe"}[v], e}
}

// expect checks what a call returns.
func expect(t *testing.T, call string, got, want outcome) {
	t.Helper()
	if got != want {
		t.Errorf("%s: got %s, error %d; want %s, error %d", brief(call), brief(got.text), got.e, brief(want.text), want.e)
	}
}

// must returns the result of a call that has to be without an error.
func must[T any](t *testing.T, call string) func(result T, e api.Errno) T {
	return func(result T, e api.Errno) T {
		t.Helper()
		if e != api.OK {
			t.Fatalf("%s: error %d", brief(call), e)
		}
		return result
	}
}

// enclosure returns the result of a call that has to be without an error.
func enclosure(t *testing.T, call string) func(a api.Enclosure, e api.Errno) api.Enclosure {
	t.Helper()
	return must[api.Enclosure](t, call)
}

// number returns a number that is known to be no error.
func number(n api.Rat, e api.Errno) api.Rat {
	if e != api.OK {
		panic("a number of a test: " + e.Error())
	}
	return n
}

func plus(x, y api.Rat) api.Rat  { return number(ratio.Add(x, y)) }
func minus(x, y api.Rat) api.Rat { return number(ratio.Sub(x, y)) }
func times(x, y api.Rat) api.Rat { return number(ratio.Mul(x, y)) }
func over(x, y api.Rat) api.Rat  { return number(ratio.Div(x, y)) }

// compare returns -1, 0 or 1, as x is less than y, equal, or greater.
func compare(x, y api.Rat) int {
	c, e := ratio.Compare(x, y)
	if e != api.OK {
		panic("a number of a test: " + e.Error())
	}
	return c
}

// middle returns the number in the middle.
func middle(a api.Enclosure) api.Rat { return over(plus(a.Lo, a.Hi), whole(2)) }

func has(a api.Enclosure, x api.Rat) bool { return compare(a.Lo, x) <= 0 && compare(x, a.Hi) <= 0 }

// lies returns whether all numbers of a are numbers of b.
func lies(a, b api.Enclosure) bool { return has(b, a.Lo) && has(b, a.Hi) }

// common returns whether enclosures have a number in common.
func common(a, b api.Enclosure) bool { return compare(a.Lo, b.Hi) <= 0 && compare(b.Lo, a.Hi) <= 0 }

// all returns the enclosure from the least of the numbers to the greatest one.
func all(l []api.Rat) api.Enclosure {
	return joined(slices.MinFunc(l, compare), slices.MaxFunc(l, compare))
}

// some returns numbers of an enclosure: its ends, 0 if it has it, and others.
func some(a api.Enclosure) []api.Rat {
	mid := middle(a)
	out := []api.Rat{a.Lo, mid, middle(joined(a.Lo, mid)), a.Hi}
	if has(a, whole(0)) {
		out = append(out, whole(0))
	}
	return out
}

// source is a row of numbers that look like chance, and are the same in each run.
type source uint64

func (s *source) below(n int) int {
	*s = *s*6364136223846793005 + 1442695040888963407
	return int(uint64(*s>>33) % uint64(n))
}

// number returns a number from -most to most, with a small denominator.
func (s *source) number(most int) api.Rat {
	den := 1 + s.below(6)
	return number(ratio.Make(strconv.Itoa(s.below(2*most*den+1)-most*den), strconv.Itoa(den)))
}

// digits returns a whole number of so many digits after the first one.
func (s *source) digits(first byte, size int) string {
	out := []byte{first}
	for range size {
		out = append(out, byte('0'+s.below(10)))
	}
	return string(out)
}

// long returns a number from -1 to 1 with up to so many digits.
func (s *source) long(most int) api.Rat {
	size := s.below(most)
	n := number(ratio.Make(s.digits('1', s.below(size+1)), s.digits('9', size)))
	if s.below(2) == 0 {
		return minus(whole(0), n)
	}
	return n
}

// span returns an enclosure of numbers from -most to most; each third one has just one number.
func (s *source) span(most int) api.Enclosure {
	x := s.number(most)
	if s.below(3) == 0 {
		return point(x)
	}
	return all([]api.Rat{x, s.number(most)})
}

// inside returns an enclosure that lies within another one.
func (s *source) inside(a api.Enclosure) api.Enclosure {
	l := some(a)
	return all([]api.Rat{l[s.below(len(l))], l[s.below(len(l))]})
}

// within returns an enclosure from lo to hi, both not too near to each other.
func (s *source) within(lo, hi api.Rat) api.Enclosure {
	wide := minus(hi, lo)
	at := func() api.Rat { return plus(lo, times(wide, over(whole(s.below(1001)), whole(1000)))) }
	if x := at(); s.below(3) > 0 {
		return all([]api.Rat{x, at()})
	}
	return point(at())
}

// float is a number as a machine's number, with an error of its last digits.
func float(x api.Rat) float64 {
	text, e := ratio.Decimal(x, 20)
	if e != api.OK {
		panic("a number of a test: " + e.Error())
	}
	f, _ := strconv.ParseFloat(text, 64)
	return f
}

// outward returns the decimals around two numbers that are known with an error of their last digits; it is not ok if this may be too much.
func outward(lo, hi float64, places int) (a api.Enclosure, ok bool) {
	unit := math.Pow10(places)
	from, to := math.Floor(lo*unit), math.Ceil(hi*unit)
	for _, x := range []float64{lo * unit, hi * unit} {
		if near := math.Abs(x - math.Round(x)); near > 0 && near < 1e-5 {
			return a, false
		}
	}
	return joined(decimal(int(from), places), decimal(int(to), places)), true
}

// digits is with how many decimal places the constants of this file are computed: with them, each number of 400 digits is known to be less or greater.
const digits = 900

func quotient(a, b exact.Int) exact.Int {
	q, _ := a.Quo(b)
	return q
}

// series returns a sum of terms, times 10 to the power of digits: the first one is over start, each other one over the number that divisor returns more than the one before it, and taken over what share returns.
func series(start int, divisor, share func(n int) int) exact.Int {
	var sum exact.Int
	term := quotient(exact.Ten(digits), exact.Of(start))
	for n := 1; term.Sign() > 0; n++ {
		sum = sum.Plus(quotient(term, exact.Of(share(n))))
		term = quotient(term, exact.Of(divisor(n)))
	}
	return sum
}

// logTwo, euler and pi are these numbers, times 10 to the power of digits, not quite exactly.
func logTwo() exact.Int {
	return series(2, func(int) int { return 2 }, func(n int) int { return n })
}

func euler() exact.Int {
	return series(1, func(n int) int { return n }, func(int) int { return 1 })
}

// pi is 16 times the angle with the tangent 1/5, less 4 times that with 1/239 (Machin).
func pi() exact.Int {
	angle := func(n int) exact.Int {
		return series(n, func(int) int { return n * n }, func(i int) int { return (2*i - 1) * (1 - (i+1)%2*2) })
	}
	return angle(5).Times(exact.Of(16)).Minus(angle(239).Times(exact.Of(4)))
}

// nearest returns the last number with at most 400 digits that is less than n over 10 to the power of digits, and the last one that is greater, of those that its continued fraction leads to.
func nearest(n exact.Int) (less, greater api.Rat) {
	p, q := n, exact.Ten(digits)
	above, under := [2]exact.Int{exact.Of(1), exact.Of(0)}, [2]exact.Int{exact.Of(0), exact.Of(1)}
	for is := true; ; is = !is {
		term, rest := p.Floor(q)
		p, q = q, rest
		above = [2]exact.Int{term.Times(above[0]).Plus(above[1]), above[0]}
		under = [2]exact.Int{term.Times(under[0]).Plus(under[1]), under[0]}
		if max(above[0].Length(), under[0].Length()) > api.Digits {
			return less, greater
		}
		x := api.Rat{Num: above[0].Text(), Den: under[0].Text()}
		if is {
			less = x
		} else {
			greater = x
		}
	}
}

// exp, log, sin and their kind are the functions that are rounded outward, by their names.
var outwards = []struct {
	name   string
	call   func(a api.Enclosure, places int) (api.Enclosure, api.Errno)
	lo, hi string
}{
	{"Round", enclose.Round, "-1000", "1000"}, {"Root", enclose.Root, "0", "1000"}, {"Exp", enclose.Exp, "-4", "4"}, {"Log", enclose.Log, "1/100", "100"}, {"Sin", enclose.Sin, "-4", "4"},
}

// pairs are the operations on two enclosures, by their names.
var pairs = []struct {
	name string
	call func(a, b api.Enclosure) (api.Enclosure, api.Errno)
}{
	{"Plus", enclose.Plus}, {"Minus", enclose.Minus}, {"Times", enclose.Times}, {"Over", enclose.Over}, {"Meet", enclose.Meet}, {"Hull", enclose.Hull},
}
