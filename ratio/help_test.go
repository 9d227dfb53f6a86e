package ratio_test

import (
	"strconv"
	"strings"
	"testing"

	"metewand/api"
	"metewand/ratio"
	"metewand/whole"
)

// q returns a number with the numerator and the denominator, whether it is valid or not.
func q(p, d string) api.Rat { return api.Rat{Num: p, Den: d} }

// frac returns p/d in lowest terms; d is above 0.
func frac(p, d int) api.Rat {
	a, b := max(p, -p), d
	for b != 0 {
		a, b = b, a%b
	}
	return q(strconv.Itoa(p/a), strconv.Itoa(d/a))
}

// shown is a number as a message has it.
func shown(a api.Rat) string { return brief(a.Num) + "/" + brief(a.Den) }

// brief shortens a text for a message.
func brief(s string) string {
	if len(s) <= 60 {
		return s
	}
	return s[:40] + ".. (" + strconv.Itoa(len(s)) + " bytes)"
}

// outcome is the results of a call as a text, and its error.
type outcome struct {
	text string
	e    api.Errno
}

func number(a api.Rat, e api.Errno) outcome {
	if a == (api.Rat{}) {
		return outcome{"", e}
	}
	return outcome{a.Num + "/" + a.Den, e}
}

func text(s string, e api.Errno) outcome    { return outcome{s, e} }
func two(s, t string, e api.Errno) outcome  { return outcome{strings.TrimSpace(s + " " + t), e} }
func list(l []string, e api.Errno) outcome  { return outcome{strings.Join(l, " "), e} }
func integer(n int, e api.Errno) outcome    { return outcome{strconv.Itoa(n), e} }
func only(e api.Errno) outcome              { return outcome{"", e} }
func fine(s string) outcome                 { return outcome{s, api.OK} }
func none(e api.Errno) outcome              { return outcome{"", e} }
func repeat(digit string, times int) string { return strings.Repeat(digit, times) }
func ten(n int) string                      { return "1" + repeat("0", n) }

// expect checks what a call returns.
func expect(t *testing.T, call string, got, want outcome) {
	t.Helper()
	if got != want {
		t.Errorf("%s: got %s, error %d; want %s, error %d", call, brief(got.text), got.e, brief(want.text), want.e)
	}
}

// must returns the result of a call that has to be without an error.
func must[T any](t *testing.T, call string) func(result T, e api.Errno) T {
	return func(result T, e api.Errno) T {
		t.Helper()
		if e != api.OK {
			t.Fatalf("%s: error %d", call, e)
		}
		return result
	}
}

func add(t *testing.T, a, b api.Rat) api.Rat { return must[api.Rat](t, "Add")(ratio.Add(a, b)) }
func sub(t *testing.T, a, b api.Rat) api.Rat { return must[api.Rat](t, "Sub")(ratio.Sub(a, b)) }
func mul(t *testing.T, a, b api.Rat) api.Rat { return must[api.Rat](t, "Mul")(ratio.Mul(a, b)) }
func div(t *testing.T, a, b api.Rat) api.Rat { return must[api.Rat](t, "Div")(ratio.Div(a, b)) }
func compare(t *testing.T, a, b api.Rat) int { return must[int](t, "Compare")(ratio.Compare(a, b)) }

// size returns a number without its sign.
func size(a api.Rat) api.Rat { return q(strings.TrimPrefix(a.Num, "-"), a.Den) }

// source is a row of numbers that look like chance, and are the same in each run.
type source uint64

func (s *source) below(n int) int {
	*s = *s*6364136223846793005 + 1442695040888963407
	return int(uint64(*s>>33) % uint64(n))
}

// digits returns a whole number above 0 of just so many digits.
func (s *source) digits(size int) string {
	out := []byte{byte('1' + s.below(9))}
	for range size - 1 {
		out = append(out, byte('0'+s.below(10)))
	}
	return string(out)
}

// number returns a valid number whose whole numbers have at most so many digits.
func (s *source) number(t *testing.T, most int) api.Rat {
	p, d := s.digits(1+s.below(most)), s.digits(1+s.below(most))
	if s.below(12) == 0 {
		p = "0"
	}
	if s.below(2) == 0 && p != "0" {
		p = "-" + p
	}
	if s.below(8) == 0 {
		d = "1"
	}
	return must[api.Rat](t, "Make")(ratio.Make(p, d))
}

// small yields all numbers with numerators and denominators of at most so much.
func small(most int) func(yield func(p, d int) bool) {
	return func(yield func(p, d int) bool) {
		for d := 1; d <= most; d++ {
			for p := -most; p <= most; p++ {
				if frac(p, d) == q(strconv.Itoa(p), strconv.Itoa(d)) && !yield(p, d) {
					return
				}
			}
		}
	}
}

// primes are moduli by which computations with long numbers are checked: what is true of numbers is true of their remainders.
var primes = []uint64{2147483647, 2147483629, 4294967291}

// remainder returns the number modulo a prime, which does not divide the denominator.
func remainder(a api.Rat, prime uint64) uint64 {
	return wholeRemainder(a.Num, prime) * power(wholeRemainder(a.Den, prime), prime-2, prime) % prime
}

func wholeRemainder(n string, prime uint64) uint64 {
	digits, minus := strings.CutPrefix(n, "-")
	var out uint64
	for _, r := range digits {
		out = (out*10 + uint64(r-'0')) % prime
	}
	if minus {
		return (prime - out) % prime
	}
	return out
}

func power(a, n, prime uint64) uint64 {
	out := uint64(1)
	for ; n > 0; n /= 2 {
		if n%2 == 1 {
			out = out * a % prime
		}
		a = a * a % prime
	}
	return out
}

// valid checks that a number is valid, by what layer 1 says.
func valid(t *testing.T, call string, a api.Rat) {
	t.Helper()
	g, _, _, e := whole.Gcd(a.Num, a.Den)
	if e != api.OK || g != "1" || a.Den[0] == '-' || a.Den == "0" {
		t.Errorf("%s: %s is not valid", call, shown(a))
	}
}
