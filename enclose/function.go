package enclose

import (
	"sync"

	"metewand/api"
	"metewand/exact"
)

// A function has real values at the rational numbers that it takes. A value is irrational, or it is between the nearest whole numbers, however many places there are.
type function interface {
	// near returns bounds of the value at x, times a power of ten; the more places, the nearer they are to the value.
	near(x exact.Ratio, places int) bounds
}

type (
	itself      struct{}
	squareRoot  struct{}
	exponential struct{}
	logarithm   struct{}
	sine        struct{}
)

func (itself) near(x exact.Ratio, places int) bounds { return scaled(x, places) }

func (squareRoot) near(x exact.Ratio, places int) bounds { return scaled(x, 2*places).root() }

func (exponential) near(x exact.Ratio, places int) bounds {
	return powerSum(x, exponentialSigns(), places)
}

// near keeps the bounds between -1 and 1: a sine next to these ends would need twice as many places as x has.
func (sine) near(x exact.Ratio, places int) bounds {
	return powerSum(x, sineSigns(), places).within(exact.Ten(places))
}

// near takes powers of 2 out of x, so that the series for what is left needs few terms.
func (logarithm) near(x exact.Ratio, places int) bounds {
	twos := 0
	for ; x.Compare(fraction(4, 3)) > 0; twos++ {
		x = x.Over(fraction(2, 1))
	}
	for ; x.Compare(fraction(2, 3)) < 0; twos-- {
		x = x.Times(fraction(2, 1))
	}
	one := fraction(1, 1)
	left := areaTangent(x.Minus(one).Over(x.Plus(one)), places)
	half := areaTangent(fraction(1, 3), places).times(exact.Of(twos)).plus(left)
	return half.times(exact.Of(2))
}

// takes returns whether the function is asked for numbers of the span alone at which the chapter allows it.
func takes(f function, a span) bool {
	switch f.(type) {
	case squareRoot:
		return a.low().Sign() >= 0
	case logarithm:
		return a.within(fraction(1, 100), fraction(100, 1))
	case exponential, sine:
		return a.within(fraction(-api.EncloseFar, 1), fraction(api.EncloseFar, 1))
	}
	return true
}

// morePlaces is how many places more than needed are computed at first.
const morePlaces = 10

// nearest returns the nearest whole numbers to the value at x times a power of ten. It tries with more places as long as there is one between the bounds; that ends, as no irrational value is whole.
func nearest(f function, x exact.Ratio, places int) bounds {
	more := morePlaces
again:
	near := f.near(x, places+more).over(exact.Ten(more))
	if near.width().Compare(exact.Of(1)) > 0 {
		more *= 2
		goto again
	}
	return near
}

// A value is a number, and the nearest whole numbers to what a function makes of it.
type value struct {
	at exact.Ratio
	bounds
}

// values returns the nearest whole numbers to the values at some numbers times a power of ten, found side by side, and once for equal numbers.
func values(f function, places int, at ...exact.Ratio) []bounds {
	known := make(map[exact.Ratio]bounds)
	found := make(chan value, len(at))
	var group sync.WaitGroup
	for _, x := range at {
		if _, begun := known[x]; begun {
			continue
		}
		known[x] = bounds{}
		group.Add(1)
		go func() {
			defer group.Done()
			found <- value{x, nearest(f, x, places)}
		}()
	}
	group.Wait()
	close(found)
	for v := range found {
		known[v.at] = v.bounds
	}
	var out []bounds
	for _, x := range at {
		out = append(out, known[x])
	}
	return out
}

// image returns the image of a span under a function that takes it, rounded outward. All functions but the sine only grow.
func image(f function, a span, places int) span {
	all := values(f, places, a.low(), a.high())
	if _, turns := f.(sine); turns {
		all = append(all[:len(all):len(all)], turnings(a, places)...)
	}
	low, high := all[0].low, all[0].high
	for _, v := range all[1:] {
		low, high = least(low, v.low), greatest(high, v.high)
	}
	unit := exact.Ten(places)
	return between(exact.Quotient(low, unit), exact.Quotient(high, unit))
}

// Where a number from -4 to 4 lies: the sine is the least between the left and the middle numbers, and the greatest between the middle and the right numbers.
const (
	left = iota - 1
	middle
	right
)

// turnings returns the least and the greatest value of the sine, times a power of ten, if it has them between the ends of the span.
func turnings(a span, places int) []bounds {
	var out []bounds
	from, to := region(a.low()), region(a.high())
	if from == left && to != left {
		out = append(out, whole(exact.Ten(places).Negative()))
	}
	if from != right && to == right {
		out = append(out, whole(exact.Ten(places)))
	}
	return out
}

// region returns where x lies. The sine turns where the cosine is 0, and that is nowhere else between 0 and 4. If the cosine is too near to 0 for its sign to be known, the sine is so near to where it turns that it is rounded to that, so that it is all one which region is returned.
func region(x exact.Ratio) int {
	if powerSum(x, cosineSigns(), api.EnclosePlaces+morePlaces).sign() < 0 {
		return x.Sign()
	}
	return middle
}
