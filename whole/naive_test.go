package whole_test

import (
	"slices"
	"strings"
)

// The functions of this file compute digit by digit, as on paper, with numbers of any length. The tests compare package whole with them.

// split returns the digits of a valid number, the last one first, and whether it is below 0.
func split(a string) (digits []int, minus bool) {
	text, minus := strings.CutPrefix(a, "-")
	for _, r := range text {
		digits = append(digits, int(r-'0'))
	}
	slices.Reverse(digits)
	return digits, minus
}

// join makes a number of digits.
func join(digits []int, minus bool) string {
	for len(digits) > 0 && digits[len(digits)-1] == 0 {
		digits = digits[:len(digits)-1]
	}
	if len(digits) == 0 {
		return "0"
	}
	var out strings.Builder
	if minus {
		out.WriteByte('-')
	}
	for _, d := range slices.Backward(digits) {
		out.WriteByte(byte('0' + d))
	}
	return out.String()
}

// atDigit returns the digit at an index, also beyond the first one.
func atDigit(digits []int, i int) int {
	if i < len(digits) {
		return digits[i]
	}
	return 0
}

func compareDigits(a, b []int) int {
	for i := max(len(a), len(b)) - 1; i >= 0; i-- {
		if x, y := atDigit(a, i), atDigit(b, i); x != y {
			if x < y {
				return -1
			}
			return 1
		}
	}
	return 0
}

// sumDigits adds sign times b to a, where the result is not below 0.
func sumDigits(a, b []int, sign int) []int {
	out := make([]int, max(len(a), len(b))+1)
	carry := 0
	for i := range out {
		total := atDigit(a, i) + sign*atDigit(b, i) + carry
		carry = 0
		for total < 0 {
			total, carry = total+10, carry-1
		}
		carry += total / 10
		out[i] = total % 10
	}
	return out
}

func naiveAdd(a, b string) string {
	x, minusX := split(a)
	y, minusY := split(b)
	switch {
	case minusX == minusY:
		return join(sumDigits(x, y, 1), minusX)
	case compareDigits(x, y) < 0:
		return join(sumDigits(y, x, -1), minusY)
	}
	return join(sumDigits(x, y, -1), minusX)
}

func naiveNegative(a string) string {
	x, minus := split(a)
	return join(x, !minus)
}

func naiveSub(a, b string) string { return naiveAdd(a, naiveNegative(b)) }

func naiveMul(a, b string) string {
	x, minusX := split(a)
	y, minusY := split(b)
	out := make([]int, len(x)+len(y)+1)
	for i, d := range x {
		for j, e := range y {
			out[i+j] += d * e
		}
	}
	for i := range len(out) - 1 {
		out[i+1] += out[i] / 10
		out[i] %= 10
	}
	return join(out, minusX != minusY)
}

func naivePow(a string, n int) string {
	out := "1"
	for range n {
		out = naiveMul(out, a)
	}
	return out
}

func naiveCompare(a, b string) int {
	x, minusX := split(a)
	y, minusY := split(b)
	switch {
	case minusX && minusY:
		return compareDigits(y, x)
	case minusX:
		return -1
	case minusY:
		return 1
	}
	return compareDigits(x, y)
}

func naiveAbs(a string) string { return strings.TrimPrefix(a, "-") }

// length is how many digits a number has.
func length(a string) int { return len(naiveAbs(a)) }

// source is a row of numbers that look like chance, and are the same in each run.
type source uint64

func (s *source) below(n int) int {
	*s = *s*6364136223846793005 + 1442695040888963407
	return int(uint64(*s>>33) % uint64(n))
}

// number returns a valid number of at most so many digits: any digits, or long rows of the same ones, which carry far.
func (s *source) number(most int) string {
	size := 1 + s.below(most)
	if s.below(6) == 0 {
		size = most
	}
	digits := make([]int, size)
	last := s.below(10)
	rows := s.below(2) == 0
	for i := range digits {
		if !rows || s.below(12) == 0 {
			last = []int{0, 9, 0, 9, 5, 4, s.below(10), s.below(10), s.below(10), s.below(10)}[s.below(10)]
		}
		digits[i] = last
	}
	return join(digits, s.below(2) == 0)
}

// sizes are numbers of digits that the tests go through.
var sizes = []int{1, 2, 5, 9, 10, 18, 19, 27, 40, 100, 199, 400}

// pairs yields pairs of numbers of all sizes.
func pairs(seed source, rounds int) func(yield func(a, b string) bool) {
	return func(yield func(a, b string) bool) {
		for range rounds {
			for _, m := range sizes {
				for _, n := range sizes {
					if !yield(seed.number(m), seed.number(n)) {
						return
					}
				}
			}
		}
	}
}

func repeat(digit string, times int) string { return strings.Repeat(digit, times) }

// power of ten
func ten(n int) string { return "1" + repeat("0", n) }
