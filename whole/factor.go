package whole

import "strconv"

// primes returns the primes whose product is n, ascending, as texts.
func primes(n int) []string {
	var texts []string
	prime := 2
	for n > 1 {
		prime = least(prime, func(d int) bool { return n%d == 0 || d*d > n })
		if n%prime != 0 {
			prime = n
		}
		texts = append(texts, strconv.Itoa(prime))
		n /= prime
	}
	return texts
}

// least returns the least number, from the first one on, for which the condition holds.
func least[T ~int | ~uint32](first T, holds func(T) bool) T {
	for !holds(first) {
		first++
	}
	return first
}
