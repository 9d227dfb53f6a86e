package whole

import "metewand/exact"

// An operation is something that is done with two numbers.
type operation interface{ operands() (a, b exact.Int) }

// A pair is the two numbers of an operation.
type pair struct{ a, b exact.Int }

func (p pair) operands() (a, b exact.Int) { return p.a, p.b }

func readPair(a, b string) pair { return pair{read(a), read(b)} }

type (
	sum        struct{ pair }
	difference struct{ pair }
	multiple   struct{ pair }
	floored    struct{ pair } // a division that rounds down
	truncated  struct{ pair } // a division that rounds towards 0
)

// perform returns the result of an operation, and what a division leaves.
func perform(o operation) (result, rest exact.Int) {
	a, b := o.operands()
	switch o.(type) {
	case sum:
		return a.Plus(b), exact.Int{}
	case difference:
		return a.Minus(b), exact.Int{}
	case multiple:
		return a.Times(b), exact.Int{}
	case floored:
		return a.Floor(b)
	case truncated:
		return a.Quo(b)
	}
	return exact.Int{}, exact.Int{}
}

// single returns the text of the result.
func single(o operation) string {
	result, _ := perform(o)
	return text(result)
}

// double returns the texts of the result and of what is left.
func double(o operation) [2]string {
	result, rest := perform(o)
	return [2]string{text(result), text(rest)}
}
