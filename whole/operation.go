package whole

// An operation is something that is done with two numbers.
type operation interface{ operands() (a, b number) }

// A pair is the two numbers of an operation.
type pair struct{ a, b number }

func (p pair) operands() (a, b number) { return p.a, p.b }

func readPair(a, b string) pair { return pair{read(a), read(b)} }

type (
	sum        struct{ pair }
	difference struct{ pair }
	multiple   struct{ pair }
	floored    struct{ pair } // a division that rounds down
	truncated  struct{ pair } // a division that rounds towards 0
)

// perform returns the result of an operation, and what a division leaves.
func perform(o operation) (result, rest number) {
	a, b := o.operands()
	switch o.(type) {
	case sum:
		return add(a, b), number{}
	case difference:
		return sub(a, b), number{}
	case multiple:
		return product(a, b), number{}
	case floored:
		return floor(a, b)
	case truncated:
		return divide(a, b)
	}
	return number{}, number{}
}

// single returns the text of the result.
func single(o operation) string {
	result, _ := perform(o)
	return result.text()
}

// double returns the texts of the result and of what is left.
func double(o operation) [2]string {
	result, rest := perform(o)
	return [2]string{result.text(), rest.text()}
}

func add(a, b number) number {
	if compareLimbs(a.limbs, b.limbs) < 0 {
		a, b = b, a
	}
	if a.with(b.sign) == below {
		return signed(a.sign, takeLimbs(a.limbs, b.limbs))
	}
	return signed(a.sign, addLimbs(a.limbs, b.limbs))
}

func sub(a, b number) number { return add(a, number{b.turned(), b.limbs}) }
