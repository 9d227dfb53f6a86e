package exact

import (
	"strconv"
	"strings"

	"metewand/api"
)

// word returns the number of a text that has no more digits than a limb; otherwise it is not ok. No product of two such numbers, and no sum of two products, is too large for a machine's number.
func word(text string) (n int64, ok bool) {
	digits := strings.TrimPrefix(text, "-")
	if len(digits) > places {
		return 0, false
	}
	for _, r := range digits {
		n = n*decimal + int64(digitOf(r))
	}
	if len(digits) < len(text) {
		n = -n
	}
	return n, true
}

// A cross is the short numbers p/q and r/s.
type cross struct{ p, q, r, s int64 }

// crossing returns the numbers of two ratios if all of them are short.
func crossing(a, b Ratio) (cross, bool) {
	var numbers [4]int64
	for i, text := range [...]string{a.Num, a.Den, b.Num, b.Den} {
		n, ok := word(text)
		if !ok {
			return cross{}, false
		}
		numbers[i] = n
	}
	return cross{numbers[0], numbers[1], numbers[2], numbers[3]}, true
}

// wordDivisor returns the greatest common divisor, or its negative.
func wordDivisor(a, b int64) int64 {
	for b != 0 {
		a, b = b, a%b
	}
	return a
}

// wordQuotient returns p/q in lowest terms; q is not 0.
func wordQuotient(p, q int64) Ratio {
	g := wordDivisor(p, q)
	if (g < 0) != (q < 0) {
		g = -g
	}
	return Ratio{api.Rat{Num: strconv.FormatInt(p/g, decimal), Den: strconv.FormatInt(q/g, decimal)}}
}
