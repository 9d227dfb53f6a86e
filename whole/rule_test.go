package whole_test

import (
	"strconv"
	"strings"
	"sync"
	"testing"

	"metewand/api"
	"metewand/whole"
)

// The examples of the chapter, in its order.
func TestExamples(t *testing.T) {
	for _, x := range []struct {
		call string
		got  outcome
		want string
		e    api.Errno
	}{
		{"Check(-12)", one("", whole.Check("-12")), "", api.OK},
		{"Check(007)", one("", whole.Check("007")), "", api.ErrForm},
		{"Check(-0)", one("", whole.Check("-0")), "", api.ErrForm},
		{"Check()", one("", whole.Check("")), "", api.ErrForm},
		{"Check(1.5)", one("", whole.Check("1.5")), "", api.ErrForm},
		{"Compare(-12, -3)", integer(whole.Compare("-12", "-3")), "-1", api.OK},
		{"Compare(10, 9)", integer(whole.Compare("10", "9")), "1", api.OK},
		{"Compare(5, 5)", integer(whole.Compare("5", "5")), "0", api.OK},
		{"Add(99999999, 1)", one(whole.Add("99999999", "1")), "100000000", api.OK},
		{"Add(-5, 5)", one(whole.Add("-5", "5")), "0", api.OK},
		{"Sub(1, 100)", one(whole.Sub("1", "100")), "-99", api.OK},
		{"Mul(-12345, 6789)", one(whole.Mul("-12345", "6789")), "-83810205", api.OK},
		{"Floor(7, 2)", two(whole.Floor("7", "2")), "3 1", api.OK},
		{"Floor(-7, 2)", two(whole.Floor("-7", "2")), "-4 1", api.OK},
		{"Floor(7, -2)", two(whole.Floor("7", "-2")), "-4 -1", api.OK},
		{"Floor(1, 0)", two(whole.Floor("1", "0")), " ", api.ErrZero},
		{"Quo(-7, 2)", two(whole.Quo("-7", "2")), "-3 -1", api.OK},
		{"Quo(7, -2)", two(whole.Quo("7", "-2")), "-3 1", api.OK},
		{"Gcd(12, 18)", three(whole.Gcd("12", "18")), "6 2 -1", api.OK},
		{"Gcd(0, 0)", three(whole.Gcd("0", "0")), "0 0 0", api.OK},
		{"Gcd(-4, 0)", three(whole.Gcd("-4", "0")), "4 -1 0", api.OK},
		{"Gcd(7, -3)", three(whole.Gcd("7", "-3")), "1 1 2", api.OK},
		{"Pow(-2, 10)", one(whole.Pow("-2", 10)), "1024", api.OK},
		{"Pow(2, 1001)", one(whole.Pow("2", 1001)), "", api.ErrValue},
		{"PowMod(3, 100, 7)", one(whole.PowMod("3", "100", "7")), "4", api.OK},
		{"PowMod(5, -1, 3)", one(whole.PowMod("5", "-1", "3")), "", api.ErrValue},
		{"Root(99, 2)", one(whole.Root("99", 2)), "9", api.OK},
		{"Root(1000, 3)", one(whole.Root("1000", 3)), "10", api.OK},
		{"Root(-1, 2)", one(whole.Root("-1", 2)), "", api.ErrValue},
		{"Base(-255, 16)", one(whole.Base("-255", 16)), "-ff", api.OK},
		{"Base(8, 2)", one(whole.Base("8", 2)), "1000", api.OK},
		{"FromBase(zz, 36)", one(whole.FromBase("zz", 36)), "1295", api.OK},
		{"FromBase(012, 8)", one(whole.FromBase("012", 8)), "", api.ErrForm},
		{"FromBase(19, 8)", one(whole.FromBase("19", 8)), "", api.ErrForm},
		{"Factor(360)", list(whole.Factor("360")), "2 2 2 3 3 5", api.OK},
		{"Factor(1)", list(whole.Factor("1")), "", api.OK},
		{"Factor(0)", list(whole.Factor("0")), "", api.ErrValue},
		{"Factor(1000001)", list(whole.Factor("1000001")), "", api.ErrLarge},
	} {
		expect(t, x.call, x.got, outcome{x.want, x.e})
	}
}

// calls makes every call of the package with some arguments, and returns all that comes back.
func calls(a, b, c string, n int) []outcome {
	return []outcome{
		one("", whole.Check(a)), integer(whole.Compare(a, b)), one(whole.Add(a, b)), one(whole.Sub(a, b)), one(whole.Mul(a, b)), two(whole.Floor(a, b)), two(whole.Quo(a, b)), three(whole.Gcd(a, b)),
		one(whole.Pow(a, n)), one(whole.PowMod(a, b, c)), one(whole.Root(a, n)), one(whole.Base(a, n)), one(whole.FromBase(a, n)), list(whole.Factor(a)),
	}
}

// P1 and R3: whatever the arguments are, a function returns, an error is one of the chapter, and with it there is nothing else.
func TestAnyArguments(t *testing.T) {
	texts := []string{"0", "1", "-1", "2", "10", "-7", "999999999", "1000000000", "-1000000000000000000", nines, "-" + nines, ten(399)}
	for _, x := range invalid {
		texts = append(texts, x.text)
	}
	texts = append(texts, repeat("7", 1<<18), "z", "zz", "-zz", strings.Repeat("\xf0\x9f", 300))
	numbers := []int{minInt, -1001, -1, 0, 1, 2, 10, 20, 21, 36, 37, 1000, 1001, maxInt}
	seed := source(1)
	for i, a := range texts {
		for j, b := range texts {
			c, n := texts[seed.below(len(texts))], numbers[(i*len(texts)+j)%len(numbers)]
			for k, got := range calls(a, b, c, n) {
				switch got.e {
				case api.OK:
					continue
				case api.ErrForm, api.ErrValue, api.ErrZero, api.ErrLarge:
				default:
					t.Errorf("call %d of %s, %s, %s, %d: error %d", k, brief(a), brief(b), brief(c), n, got.e)
				}
				if s := strings.TrimSpace(got.texts); s != "" && !(k == 1 && s == "0") {
					t.Errorf("call %d of %s, %s, %s, %d: error %d, but also %s", k, brief(a), brief(b), brief(c), n, got.e, brief(s))
				}
			}
		}
	}
}

// R2 and R6: a result depends on the arguments alone, whatever else is computed before, or at the same time.
func TestSideBySide(t *testing.T) {
	seed := source(2)
	type arguments struct {
		a, b, c string
		n       int
	}
	var all []arguments
	var want [][]outcome
	for range 40 {
		x := arguments{seed.number(400), seed.number(400), naiveAbs(seed.number(400)), seed.below(40)}
		all = append(all, x)
		want = append(want, calls(x.a, x.b, x.c, x.n))
	}
	var group sync.WaitGroup
	for range 8 {
		group.Add(1)
		go func() {
			defer group.Done()
			for i, x := range all {
				for k, got := range calls(x.a, x.b, x.c, x.n) {
					if got != want[i][k] {
						t.Errorf("call %d of %v: %v, before %v", k, x, got, want[i][k])
					}
				}
			}
		}()
	}
	group.Wait()
}

// R7 and Terms: a result is a valid number.
func TestValidResults(t *testing.T) {
	for a, b := range pairs(77, 2) {
		for k, got := range calls(a, b, naiveAbs(a), 3) {
			if got.e != api.OK || k == 0 || k == 11 || k == 12 {
				continue
			}
			for _, s := range strings.Fields(got.texts) {
				if e := whole.Check(s); e != api.OK {
					t.Errorf("call %d of %s, %s: %s is not valid (%s)", k, brief(a), brief(b), brief(s), strconv.Itoa(int(e)))
				}
			}
		}
	}
}
