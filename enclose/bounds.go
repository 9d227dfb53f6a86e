package enclose

import "metewand/exact"

// Bounds are two whole numbers, in order, between which a real number lies.
type bounds struct{ low, high exact.Int }

func whole(n exact.Int) bounds { return bounds{n, n} }

// scaled returns the bounds of a number times a power of ten: the nearest whole numbers.
func scaled(x exact.Ratio, places int) bounds {
	over, under := x.Parts()
	return whole(exact.Ten(places)).times(over).over(under)
}

func (b bounds) plus(other bounds) bounds {
	return bounds{b.low.Plus(other.low), b.high.Plus(other.high)}
}

func (b bounds) times(n exact.Int) bounds {
	if n.Sign() < 0 {
		b.low, b.high = b.high, b.low
	}
	return bounds{b.low.Times(n), b.high.Times(n)}
}

// over returns bounds of a quotient, rounded outward; n is above 0.
func (b bounds) over(n exact.Int) bounds { return bounds{floor(b.low, n), ceiling(b.high, n)} }

// within returns the bounds of a number that is known not to be farther from 0 than n.
func (b bounds) within(n exact.Int) bounds {
	return bounds{greatest(b.low, n.Negative()), least(b.high, n)}
}

// wider returns the bounds of a number that is changed by no more than n.
func (b bounds) wider(n exact.Int) bounds { return bounds{b.low.Minus(n), b.high.Plus(n)} }

// width is how far the bounds are apart.
func (b bounds) width() exact.Int { return b.high.Minus(b.low) }

// sign is -1 or 1 if the number is known to be less than 0, or greater; otherwise it is 0.
func (b bounds) sign() int {
	if b.low.Sign() > 0 || b.high.Sign() < 0 {
		return b.low.Sign()
	}
	return 0
}

func floor(a, b exact.Int) exact.Int {
	quotient, _ := a.Floor(b)
	return quotient
}

func ceiling(a, b exact.Int) exact.Int { return floor(a.Negative(), b).Negative() }

// root returns bounds of the square root: the nearest whole numbers, if those of b are.
func (b bounds) root() bounds {
	low, high := b.low.Root(2), b.high.Root(2)
	if high.Times(high).Compare(b.high) < 0 {
		high = high.Plus(exact.Of(1))
	}
	return bounds{low, high}
}
