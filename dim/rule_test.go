package dim_test

import (
	"slices"
	"sync"
	"testing"

	"metewand/api"
	"metewand/dim"
)

// arguments is what a call of any function of the package takes.
type arguments struct {
	a, b  []api.Power
	l     [][]api.Power
	exps  []api.Rat
	n     api.Rat
	base  string
	stand []api.DimBase
	text  string
}

// calls makes every call of the package, and returns all that comes back.
func calls(x arguments) []outcome {
	return []outcome{
		only(dim.Check(x.a)), truth(dim.Same(x.a, x.b)), powers(dim.Mul(x.a, x.b)), powers(dim.Div(x.a, x.b)), powers(dim.Pow(x.a, x.n)), number(dim.Exp(x.a, x.base)), powers(dim.Product(x.l, x.exps)),
		powers(dim.Rebase(x.a, x.stand)), text(dim.Print(x.a)), powers(dim.Parse(x.text)), count(dim.Rank(x.l)), numbers(dim.Express(x.l, x.a)), lists(dim.Groups(x.l)),
	}
}

// P1 and R3: whatever the arguments are, a function returns, an error is one of the chapter, and with it there is nothing else.
func TestAnyArguments(t *testing.T) {
	var all [][]api.Power
	for _, x := range invalid {
		all = append(all, pw(x.d))
	}
	all = append(all, nil, pw("m"), pw("kg m^-1/2 s^3"), pw("m^"+nearly), pw("a^1/"+nearly+" m^-"+nearly), []api.Power{{}}, []api.Power{{Base: "m"}}, []api.Power{{Base: repeat("m", 1<<16), Exp: rat("1")}}, []api.Power{{Base: "m", Exp: rat(repeat("9", 1<<14))}})
	ns := []api.Rat{{}, rat("0"), rat("-1/2"), rat("2/4"), rat(nearly), rat("1/" + large), {Num: "\xff", Den: "\xff"}}
	texts := []string{"", "m", "1", "M", "m*s^-1", "m^", repeat("a*", 1000), repeat("^", 300), "\xf0\x9f", "zzzzzzzzz", "m^1/" + repeat("3", 390)}
	for i, a := range all {
		for j, b := range all {
			n, s := ns[(i+j)%len(ns)], texts[(i+3*j)%len(texts)]
			x := arguments{a, b, [][]api.Power{a, b, pw("m s"), a}[:(i+j)%5%4+1], []api.Rat{n, n, rat("1")}[:j%4%3+1], n, s, []api.DimBase{{Base: s, Dim: b}, {Base: "m", Dim: a}}[:i%3], s}
			for k, got := range calls(x) {
				switch got.e {
				case api.OK:
					continue
				case api.ErrForm, api.ErrValue, api.ErrName, api.ErrTwice, api.ErrOrder, api.ErrMany, api.ErrFew, api.ErrLarge, api.ErrNone:
				default:
					t.Errorf("call %d of %s, %s, %s, %s: error %d", k, brief(words(a)), brief(words(b)), brief(shown(n)), brief(s), got.e)
				}
				if got.text != "" {
					t.Errorf("call %d of %s, %s, %s, %s: error %d, but also %s", k, brief(words(a)), brief(words(b)), brief(shown(n)), brief(s), got.e, brief(got.text))
				}
			}
		}
	}
}

// some returns valid arguments.
func (s *source) some(t *testing.T) arguments {
	l := s.list(t, 6)
	return arguments{s.dimension(t, 9), s.dimension(t, 9), l, s.exps(l), s.number(9), bases[s.below(len(bases))], s.stand(t), "s^2*m^-1/2*s"}
}

// R2 and R6: a result depends on the arguments alone, whatever else is computed before, or at the same time.
func TestSideBySide(t *testing.T) {
	seed := source(2)
	var all []arguments
	var want [][]outcome
	for range 40 {
		x := seed.some(t)
		all = append(all, x)
		want = append(want, calls(x))
	}
	var group sync.WaitGroup
	for range 8 {
		group.Add(1)
		go func() {
			defer group.Done()
			for i, x := range all {
				if !slices.Equal(calls(x), want[i]) {
					t.Errorf("%s: not what it was before", words(x.a))
				}
			}
		}()
	}
	group.Wait()
}

// filled returns arguments whose lists have room behind them, which is no part of an argument.
func filled(t *testing.T) (x arguments, whole func() string) {
	d := pw("a^2 kg^3 m^1/2 s z")
	l := dims("kg", "m", "kg m", "s", "z")
	exps := rats("1 2 3 4 5")
	stands := stand("m = kg s", "kg = m", "s = z")
	x = arguments{d[:4], d[1:3], l[:4], exps[:4], rat("1/2"), "m", stands[:2], "m"}
	return x, func() string {
		text := words(d) + "; " + shownList(l) + "; " + joined(exps)
		for _, s := range stands {
			text += "; " + s.Base + " = " + words(s.Dim)
		}
		return text
	}
}

// R4: arguments are not changed, nor what lies behind them.
func TestArgumentsStay(t *testing.T) {
	x, whole := filled(t)
	before := whole()
	calls(x)
	if whole() != before {
		t.Errorf("%s has become %s", before, whole())
	}
}

// R4: results share no memory with arguments, nor with other results.
func TestMemory(t *testing.T) {
	x, whole := filled(t)
	before, first := whole(), calls(x)
	for _, result := range [][]api.Power{
		must[[]api.Power](t, "Mul")(dim.Mul(x.a, nil)), must[[]api.Power](t, "Mul")(dim.Mul(nil, x.a)), must[[]api.Power](t, "Div")(dim.Div(x.a, nil)), must[[]api.Power](t, "Pow")(dim.Pow(x.a, rat("1"))),
		must[[]api.Power](t, "Product")(dim.Product(x.l[:1], rats("1"))), must[[]api.Power](t, "Rebase")(dim.Rebase(x.a, nil)), must[[]api.Power](t, "Rebase")(dim.Rebase(pw("m"), x.stand)), must[[]api.Power](t, "Parse")(dim.Parse("a*b")),
	} {
		for i := range result[:cap(result)] {
			result[:cap(result)][i] = api.Power{Base: "changed"}
		}
	}
	groups := must[[][]api.Rat](t, "Groups")(dim.Groups(dims("m", "m", "m")))
	for i := range groups[0][:cap(groups[0])] {
		groups[0][:cap(groups[0])][i] = api.Rat{}
	}
	if joined(groups[1]) != "-1 0 1" {
		t.Errorf("a group shares memory with another one: %s", joined(groups[1]))
	}
	exps := must[[]api.Rat](t, "Express")(dim.Express(x.l, pw("m")))
	exps[0] = api.Rat{}
	if whole() != before || !slices.Equal(calls(x), first) {
		t.Errorf("%s has become %s", before, whole())
	}
}

// R4: a nil list is an empty one.
func TestEmptyLists(t *testing.T) {
	empty := arguments{[]api.Power{}, []api.Power{}, [][]api.Power{}, []api.Rat{}, rat("1"), "m", []api.DimBase{}, "1"}
	if got, want := calls(empty), calls(arguments{n: rat("1"), base: "m", text: "1"}); !slices.Equal(got, want) {
		t.Errorf("got %v, want %v", got, want)
	}
	expect(t, "Rank of empty ones", count(dim.Rank([][]api.Power{{}, nil})), fine("0"))
	expect(t, "Product of empty ones", powers(dim.Product([][]api.Power{{}, nil}, rats("1 1"))), fine(""))
	expect(t, "Groups of empty ones", lists(dim.Groups([][]api.Power{{}, nil})), fine("1 0; 0 1"))
}
