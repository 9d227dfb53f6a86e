package exact

// Power returns a to the power n, which is not below 0.
func (a Int) Power(n int) Int {
	result := small(1)
	for ; n > 0; n /= 2 {
		if n%2 == 1 {
			result = result.Times(a)
		}
		if n > 1 {
			a = a.Times(a)
		}
	}
	return result
}

// Ten returns the power n of ten, which is not below 0.
func Ten(n int) Int { return small(decimal).Power(n) }

// PowerModulo returns the remainder of a to the power n, divided by m; n is not below 0, and m is above it.
func (a Int) PowerModulo(n, m Int) Int {
	_, base := a.Floor(m)
	_, start := small(1).Floor(m)
	square, result := base.limbs, start.limbs
	var room []limb
	for bit := range digits(n.limbs, 2) {
		if bit == 1 {
			room = multiply(room, result, square)
			_, result = divideLimbs(room, m.limbs)
		}
		room = multiply(room, square, square)
		_, square = divideLimbs(room, m.limbs)
	}
	return signed(above, result)
}

// Root returns the greatest number whose power n is not more than a, which is not below 0; n is above 0. It goes down by Newton's steps from a number that is too great; the first step that does not go down starts from the root.
func (a Int) Root(n int) Int {
	if a.sign == none {
		return a
	}
	degree := Of(n)
	less := degree.Minus(small(1))
	result := Ten((a.Length() + n - 1) / n)
next:
	share, _ := a.Quo(result.Power(n - 1))
	step, _ := less.Times(result).Plus(share).Quo(degree)
	if compareLimbs(step.limbs, result.limbs) < 0 {
		result = step
		goto next
	}
	return result
}
