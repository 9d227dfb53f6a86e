package exact

// Divisor returns the greatest common divisor of a and b.
func (a Int) Divisor(b Int) Int {
	w := walk{rest: a.limbs, next: b.limbs}
	w.finish()
	return signed(above, w.rest)
}

// Combine returns the greatest common divisor g of a and b, and x and y with a x + b y = g, x the least that is not below 0 (if b is not 0).
func (a Int) Combine(b Int) (g, x, y Int) {
	if b.sign == none {
		return a.Size(), signed(a.sign, []limb{1}), Int{}
	}
	w := walk{rest: a.limbs, next: b.limbs, times: []limb{1}}
	w.finish()
	g = signed(above, w.rest)
	period, _ := b.Size().Quo(g)
	_, x = signed(a.with(w.side()), w.times).Floor(period)
	y, _ = g.Minus(a.Times(x)).Quo(b)
	return g, x, y
}

// A walk is how far Euclid's algorithm has come: two neighbours of the numbers that it finds, and how many times the first number of all each of these is, up to multiples of the second. (If times is 0 at first, it stays 0, at no cost.) What is left of the signs is that they alternate: odd says that the neighbours have changed places an odd number of times.
type walk struct {
	rest, next   []limb
	times, after []limb
	odd          bool
}

// side is the sign of times.
func (w *walk) side() sign {
	if w.odd {
		return below
	}
	return above
}

// finish goes on until nothing is left.
func (w *walk) finish() {
	for len(w.next) > 0 {
		if s := w.look(); s.empty() {
			w.step()
		} else {
			w.jump(s)
		}
	}
}

// step is a step of Euclid's algorithm, with a division.
func (w *walk) step() {
	quotient, rest := divideLimbs(w.rest, w.next)
	w.rest, w.next = w.next, rest
	w.times, w.after = w.after, addLimbs(w.times, multiply(nil, quotient, w.after))
	w.odd = !w.odd
}

// A stride is several steps at once: the new neighbours are a rest - b next and d next - c rest, or the negatives of these if odd.
type stride struct {
	a, b, c, d int64
	odd        bool
}

// empty returns whether there are no steps.
func (s stride) empty() bool { return s.b == 0 }

// look finds the next steps from the two highest limbs alone (Lehmer), as long as the lower ones cannot change them (Collins), and the numbers of the stride are less than radix. These grow as high and low shrink, and are never more than high was at first, so that nothing overflows.
func (w *walk) look() stride {
	top := max(len(w.rest)-2, len(w.next)-2, 0)
	exact := top == 0
	high, low := highest(w.rest, top), highest(w.next, top)
	s := stride{a: 1, d: 1}
	for low > 0 && high >= low {
		quotient, rest := high/low, high%low
		c, d := s.a+quotient*s.c, s.b+quotient*s.d
		if c >= radix || d >= radix || !exact && (rest < d || low-rest < s.d+d) {
			break
		}
		high, low = low, rest
		s = stride{s.c, s.d, c, d, !s.odd}
	}
	return s
}

// highest returns the number that the two limbs from top on are.
func highest(limbs []limb, top int) int64 {
	var result int64
	for i := min(top+2, len(limbs)) - 1; i >= top; i-- {
		result = result*radix + int64(limbs[i])
	}
	return result
}

// jump does the steps that look found.
func (w *walk) jump(s stride) {
	w.times, w.after = blend(w.times, w.after, s.a, s.b), blend(w.times, w.after, s.c, s.d)
	if s.odd {
		s.a, s.b, s.c, s.d = -s.a, -s.b, -s.c, -s.d
	}
	w.rest, w.next = blend(w.rest, w.next, s.a, -s.b), blend(w.rest, w.next, -s.c, s.d)
	w.odd = w.odd != s.odd
}

// blend returns x a + y b, which is not below 0. The numbers x and y are nearer to 0 than radix, so that no sum is too large.
func blend(a, b []limb, x, y int64) []limb {
	result := make([]limb, max(len(a), len(b))+2)
	var on int64
	for i := range result {
		total := on
		if i < len(a) {
			total += x * int64(a[i])
		}
		if i < len(b) {
			total += y * int64(b[i])
		}
		on = total / radix
		part := total % radix
		if part < 0 {
			on, part = on-1, part+radix
		}
		result[i] = limb(part)
	}
	return trim(result)
}
