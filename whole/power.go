package whole

// power returns a to the power n.
func power(a number, n int) number {
	result := small(1)
	for ; n > 0; n /= 2 {
		if n%2 == 1 {
			result = product(result, a)
		}
		if n > 1 {
			a = product(a, a)
		}
	}
	return result
}

// powerModulo returns the remainder of a to the power n, divided by m.
func powerModulo(a, n, m number) number {
	_, base := floor(a, m)
	_, start := floor(small(1), m)
	square, result := base.limbs, start.limbs
	var room []limb
	for bit := range digits(n.limbs, 2) {
		if bit == 1 {
			room = multiply(room, result, square)
			_, result = divideLimbs(room, m.limbs)
		}
		room = multiply(room, square, square)
		_, square = divideLimbs(room, m.limbs)
	}
	return signed(above, result)
}

// root returns the greatest number whose power n is not more than a. It goes down by Newton's steps from a number that is too great; the first step that does not go down starts from the root.
func root(a number, n int) number {
	if a.sign == none {
		return a
	}
	degree := small(limb(n))
	less := sub(degree, small(1))
	result := power(small(decimal), (a.length()+n-1)/n)
next:
	share, _ := divide(a, power(result, n-1))
	step, _ := divide(add(product(less, result), share), degree)
	if compareLimbs(step.limbs, result.limbs) < 0 {
		result = step
		goto next
	}
	return result
}

// primes returns the primes whose product is n, ascending, as texts.
func primes(n int) []string {
	var texts []string
	prime := 2
	for n > 1 {
		prime = least(prime, func(d int) bool { return n%d == 0 || d*d > n })
		if n%prime != 0 {
			prime = n
		}
		texts = append(texts, small(limb(prime)).text())
		n /= prime
	}
	return texts
}

// least returns the least number, from the first one on, for which the condition holds.
func least[T ~int | ~uint32](first T, holds func(T) bool) T {
	for !holds(first) {
		first++
	}
	return first
}
