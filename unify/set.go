package unify

import (
	"iter"
	"math/bits"
	"slices"
)

// A set is numbers of equations, of which there are fewer than bits.
type set uint64

func just(number int) set { return 1 << number }

func (s set) has(number int) bool { return s&just(number) != 0 }

func (s set) count() int { return bits.OnesCount64(uint64(s)) }

// first is the least number of a set that is not empty.
func (s set) first() int { return bits.TrailingZeros64(uint64(s)) }

// before returns whether the set comes before another one with as many numbers: the least number that only one of them has is then in it.
func (s set) before(other set) bool {
	differ := s ^ other
	return differ != 0 && s.has(differ.first())
}

// lowest returns the given number of its least numbers.
func (s set) lowest(many int) set {
	var least set
	for range many {
		least |= s & -s
		s &= s - 1
	}
	return least
}

// each goes through the numbers, ascending.
func (s set) each() iter.Seq[int] {
	return func(yield func(int) bool) {
		for ; s != 0; s &= s - 1 {
			if !yield(s.first()) {
				return
			}
		}
	}
}

func (s set) numbers() []int { return slices.Collect(s.each()) }
