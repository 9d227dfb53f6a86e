package ratio

import (
	"strings"

	"metewand/exact"
)

// A rounding is a number, and says how it becomes a whole one.
type rounding interface {
	Split() (exact.Int, exact.Ratio)
}

type (
	down struct{ exact.Ratio } // the greatest one that is not more
	even struct{ exact.Ratio } // the nearest one, of two the even one
)

// rounded returns the whole number that a number becomes.
func rounded(r rounding) exact.Int {
	floor, rest := r.Split()
	up := false
	switch r.(type) {
	case down:
	case even:
		order := rest.Compare(exact.Quotient(exact.Of(1), exact.Of(2)))
		up = order > 0 || order == 0 && floor.Odd()
	}
	if up {
		return floor.Plus(exact.Of(1))
	}
	return floor
}

// The places of a decimal, as it is written.
type place int

const (
	atSign place = iota
	atFront
	atPoint
	behind
)

// pointed returns a whole number of units of the last place as a decimal.
func pointed(units exact.Int, places int) string {
	digits, minus := strings.CutPrefix(units.Text(), "-")
	digits = strings.Repeat("0", max(0, places+1-len(digits))) + digits
	front := len(digits) - places
	var out []byte
	at := atSign
	for i := range len(digits) {
		switch at {
		case atSign:
			if minus {
				out = append(out, '-')
			}
			at = atFront
			fallthrough
		case atFront:
			if i < front {
				break
			}
			at = atPoint
			fallthrough
		case atPoint:
			out = append(out, '.')
			at = behind
		}
		out = append(out, digits[i])
	}
	return string(out)
}
