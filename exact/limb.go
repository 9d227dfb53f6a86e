package exact

// A limb holds as many decimal digits as fit, so that texts are cut into limbs without arithmetic.
const (
	places = 9
	radix  = 1_000_000_000
)

// A limb is a small number: one digit in the base radix. The limbs of a number are in a slice, the lowest one first, and the highest one is not 0.
type limb uint32

// plus returns the digit of a + b + carry, and what is carried on.
func (a limb) plus(b, carry limb) (digit, on limb) {
	total := a + b + carry
	if total >= radix {
		return total - radix, 1
	}
	return total, 0
}

// minus returns the digit of a - b - borrow, and what is borrowed on.
func (a limb) minus(b, borrow limb) (digit, on limb) {
	due := b + borrow
	if a < due {
		return a + radix - due, 1
	}
	return a - due, 0
}

// times returns the digit of a * b + carry, and what is carried on.
func (a limb) times(b, carry limb) (digit, on limb) {
	total := uint64(a)*uint64(b) + uint64(carry)
	return limb(total % radix), limb(total / radix)
}

// The kinds of numbers that divisions tell apart, by how many limbs they have.
type kind int

const (
	zero  kind = iota // no limbs
	short             // one
	long              // more
)

func kindOf(limbs []limb) kind { return kind(min(len(limbs), int(long))) }

// trim cuts off the zeros at the high end.
func trim(limbs []limb) []limb {
	size := len(limbs)
	for size > 0 && limbs[size-1] == 0 {
		size--
	}
	return limbs[:size]
}

// copied returns the same limbs in other memory.
func copied(limbs []limb) []limb {
	result := make([]limb, len(limbs))
	copy(result, limbs)
	return result
}

// A block is some neighbouring limbs, which are compared at once.
type block [8]limb

// blockBefore returns the block that ends before an index.
func blockBefore(limbs []limb, end int) block {
	var b block
	copy(b[:], limbs[end-len(b):end])
	return b
}

// compareLimbs returns -1, 0 or 1 as a is less than b, equal, or greater.
func compareLimbs(a, b []limb) int {
	if len(a) != len(b) {
		return direction(len(a) < len(b))
	}
	rest := len(a)
	for rest >= len(block{}) && blockBefore(a, rest) == blockBefore(b, rest) {
		rest -= len(block{})
	}
	for i := rest - 1; i >= 0; i-- {
		if a[i] != b[i] {
			return direction(a[i] < b[i])
		}
	}
	return 0
}

// direction is the result of a comparison of two things that differ.
func direction(less bool) int {
	if less {
		return -1
	}
	return 1
}

// combine goes through the limbs of a and b from the low end on, by a step that hands something on. The number a is not less than b.
func combine(a, b []limb, step func(x, y, from limb) (digit, on limb)) []limb {
	result := make([]limb, len(a)+1)
	var on limb
	for i, x := range a {
		var y limb
		if i < len(b) {
			y = b[i]
		}
		result[i], on = step(x, y, on)
	}
	result[len(a)] = on
	return trim(result)
}

// addLimbs returns the sum.
func addLimbs(a, b []limb) []limb {
	if len(a) < len(b) {
		a, b = b, a
	}
	return combine(a, b, limb.plus)
}

// takeLimbs returns a less b, which is not greater.
func takeLimbs(a, b []limb) []limb { return combine(a, b, limb.minus) }
