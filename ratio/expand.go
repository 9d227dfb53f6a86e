package ratio

import (
	"iter"

	"metewand/api"
	"metewand/exact"
	"metewand/stop"
)

// digits yields the digits behind the point of a number from 0 on that is less than 1, each one with what was left of the number before it, until nothing is left.
func digits(rest exact.Ratio) iter.Seq2[exact.Ratio, string] {
	ten := exact.Whole(exact.Ten(1))
	return func(yield func(exact.Ratio, string) bool) {
		for rest := rest; rest.Sign() != 0; {
			digit, next := rest.Times(ten).Split()
			if !yield(rest, digit.Text()) {
				return
			}
			rest = next
		}
	}
}

// expansion returns the front and the period of a decimal expansion.
func expansion(a exact.Ratio) (front, period string) {
	size := a
	if a.Sign() < 0 {
		size, front = a.Negative(), "-"
	}
	floor, rest := size.Split()
	front += floor.Text()
	if rest.Sign() == 0 {
		return front, ""
	}
	places, found := "", map[exact.Ratio]int{}
	start := -1
look:
	for left, digit := range digits(rest) {
		if at, met := found[left]; met {
			start = at
			break look
		}
		stop.Demand(len(places) < api.RatioTerms, api.ErrLarge)
		found[left] = len(places)
		places += digit
	}
	if start < 0 {
		return front + "." + places, ""
	}
	return front + "." + places[:start], places[start:]
}
