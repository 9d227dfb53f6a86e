package unify

import (
	"math/bits"
	"strconv"

	"metewand/exact"
)

// A short is a whole number modulo the prime 2^61 - 1. Most systems are counted by such numbers.
type short uint64

const shortPrime = 1<<61 - 1

// shortOf returns the residue of a whole number.
func shortOf(n exact.Int) short {
	_, rest := n.Floor(exact.Of(shortPrime))
	return short(wordOf(rest))
}

// wordOf returns a number that fits.
func wordOf(n exact.Int) uint64 {
	word, _ := strconv.ParseUint(n.Text(), 10, wordLen)
	return word
}

// lowest returns the residue of any number that fits.
func (a short) lowest() short {
	a = a&shortPrime + a>>61
	if a >= shortPrime {
		a -= shortPrime
	}
	return a
}

// Minus returns a - b.
func (a short) Minus(b short) short { return (a + shortPrime - b).lowest() }

// Times returns a b. The bits of the product above the highest one of the prime count as if they began at the lowest one.
func (a short) Times(b short) short {
	high, low := bits.Mul64(uint64(a), uint64(b))
	return (short(high<<3|low>>61) + short(low&shortPrime)).lowest()
}

// Sign is 0 or 1, as the number is 0 or another one.
func (a short) Sign() int { return min(int(a), 1) }

// The prime of longer residues is the greatest one below 2^256.
const (
	size    = 4 // words of a residue
	wordLen = 64
	missing = 189 // what is missing to the prime
)

// A residue is a whole number modulo the prime: its bits, the lowest word first.
type residue [size]uint64

func prime() exact.Int { return exact.Of(2).Power(size * wordLen).Minus(exact.Of(missing)) }

// residueOf returns the residue of a whole number.
func residueOf(n exact.Int) residue {
	var r residue
	_, rest := n.Floor(prime())
	for at := range r {
		var word exact.Int
		rest, word = rest.Floor(exact.Of(2).Power(wordLen))
		r[at] = wordOf(word)
	}
	return r
}

// plus returns the sum with a small number, and what is carried out of the words.
func (a residue) plus(small uint64) (residue, uint64) {
	for at := range a {
		a[at], small = bits.Add64(a[at], small, 0)
	}
	return a, small
}

// lowest returns the residue of any number that has these words.
func (a residue) lowest() residue {
	if less, carry := a.plus(missing); carry > 0 {
		return less
	}
	return a
}

// Minus returns a - b. What is borrowed is the prime and what is missing to it.
func (a residue) Minus(b residue) residue {
	var borrow uint64
	for at := range a {
		a[at], borrow = bits.Sub64(a[at], b[at], borrow)
	}
	borrow *= missing
	for at := range a {
		a[at], borrow = bits.Sub64(a[at], borrow, 0)
	}
	return a
}

// Times returns a b. What is carried out of the words counts as often as it is more than the prime, and so does what this carries.
func (a residue) Times(b residue) residue {
	var all [2 * size]uint64
	for at := range size {
		var over uint64
		for other := range size {
			all[at+other], over = product(a[at], b[other], all[at+other], over)
		}
		all[at+size] = over
	}
	var over uint64
	for at := range size {
		a[at], over = product(all[at+size], missing, all[at], over)
	}
	a, over = a.plus(over * missing)
	a[0] += over * missing // all words are low if there is another one
	return a.lowest()
}

// product returns the words of a b + c + d.
func product(a, b, c, d uint64) (low, high uint64) {
	high, low = bits.Mul64(a, b)
	low, carry := bits.Add64(low, c, 0)
	high += carry
	low, carry = bits.Add64(low, d, 0)
	return low, high + carry
}

// Sign is 0 or 1, as the number is 0 or another one.
func (a residue) Sign() int {
	if a == (residue{}) {
		return 0
	}
	return 1
}
