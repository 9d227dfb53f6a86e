package enclose_test

import (
	"slices"
	"sync"
	"testing"

	"metewand/api"
	"metewand/enclose"
)

// arguments is what a call of any function of the package takes.
type arguments struct {
	a, b, x api.Enclosure
	number  api.Rat
	n       int
}

// calls makes every call of the package, and returns all that comes back.
func calls(x arguments) []outcome {
	out := []outcome{
		only(enclose.Check(x.a)), truth(enclose.Has(x.a, x.number)), list(enclose.Solve(x.a, x.b, x.x)), one(enclose.Power(x.a, x.n)), verdict(enclose.Below(x.a, x.b)),
	}
	for _, f := range pairs {
		out = append(out, one(f.call(x.a, x.b)))
	}
	for _, f := range outwards {
		out = append(out, one(f.call(x.a, x.n)))
	}
	return out
}

// P1 and R3: whatever the arguments are, a function returns, an error is one of the chapter, and with it there is nothing else.
func TestAnyArguments(t *testing.T) {
	all := []api.Enclosure{enc("1..2"), enc("-1..3"), enc("0"), enc("-4..4"), enc("1/100..100"), enc("1/" + most + "..1"), enc("-" + most + ".." + most), enc(half), enc("-1/" + nearly + "..0"), enc("\xff..1"), enc("1.." + repeat("9", 1<<14)), enc("1/" + repeat("7", 1<<14)), enc("-..1"), enc("1.5..2"), enc("1e3")}
	for _, x := range invalid {
		all = append(all, x.a)
	}
	ns := []int{0, 1, 2, 3, 6, 7, 8, 9, -1, 1 << 62, -1 << 63}
	for i, a := range all {
		for j, b := range all {
			x := arguments{a, b, all[(i+7*j)%len(all)], b.Lo, ns[(i+j)%len(ns)]}
			for k, got := range calls(x) {
				switch got.e {
				case api.OK:
					continue
				case api.ErrForm, api.ErrValue, api.ErrOrder, api.ErrZero, api.ErrLarge, api.ErrNone:
				default:
					t.Errorf("call %d of %s, %s: error %d", k, brief(text(a)), brief(text(b)), got.e)
				}
				if got.text != "" {
					t.Errorf("call %d of %s, %s: error %d, but also %s", k, brief(text(a)), brief(text(b)), got.e, brief(got.text))
				}
			}
		}
	}
}

// R2 and R6: a result depends on the arguments alone, whatever else is computed before, or at the same time.
func TestSideBySide(t *testing.T) {
	seed := source(15)
	var all []arguments
	var want [][]outcome
	for range 60 {
		x := arguments{seed.span(4), seed.span(4), seed.span(9), seed.number(4), seed.below(9)}
		all = append(all, x)
		want = append(want, calls(x))
	}
	var group sync.WaitGroup
	for range 8 {
		group.Add(1)
		go func() {
			defer group.Done()
			for i, x := range all {
				if !slices.Equal(calls(x), want[i]) {
					t.Errorf("%s, %s: not what it was before", text(x.a), text(x.b))
				}
			}
		}()
	}
	group.Wait()
}

// R4: a list that is returned has memory of its own.
func TestMemory(t *testing.T) {
	a, b, x := enc("1..2"), enc("-1..3"), enc("-9..9")
	first := must[[]api.Enclosure](t, "Solve")(enclose.Solve(a, b, x))
	clear(first[:cap(first)])
	expect(t, "Solve again", list(enclose.Solve(a, b, x)), fine("-9..-1 1/3..9"))
}

// With an error, or without solutions, there is no list.
func TestEmptyLists(t *testing.T) {
	for _, l := range [][2]api.Enclosure{{enc("2..1"), enc("1")}, {enc("1"), enc("0")}} {
		if out, _ := enclose.Solve(l[0], l[1], enc("1")); len(out) != 0 {
			t.Errorf("Solve of %s and %s: %s", text(l[0]), text(l[1]), texts(out))
		}
	}
}
