package dim

import "metewand/exact"

// An entry is a number of a row, which is not 0.
type entry struct {
	column int
	value  exact.Int
}

// A row has entries in ascending columns; all other numbers of it are 0. Whole numbers are enough, as a row may be multiplied by any number that is not 0.
type row []entry

// begins returns the column in which the row begins. No row is empty, as each has the number of its own dimension at the end.
func (r row) begins() int { return r[0].column }

// reduce adds multiples of other rows, which are known by the columns in which they begin, until the row begins where none of them does.
func (r row) reduce(rows map[int]row) row {
reducing:
	for {
		switch other, is := rows[r.begins()]; {
		case is:
			r = r.cancel(other)
		default:
			break reducing
		}
	}
	return r
}

// cancel returns a multiple of the row, less one of another row that begins in the same column, so that this column is 0. The other row ends before this one, whose dimension comes later.
func (r row) cancel(other row) row {
	common := r[0].value.Divisor(other[0].value)
	times, less := quotient(other[0].value, common), quotient(r[0].value, common)
	sum := make(row, 0, max(len(r), len(other)))
	for len(r) > 0 {
		next := r.begins()
		if len(other) > 0 {
			next = min(next, other.begins())
		}
		var mine, others exact.Int
		mine, r = r.take(next)
		others, other = other.take(next)
		if value := mine.Times(times).Minus(others.Times(less)); value.Sign() != 0 {
			sum = append(sum, entry{next, value})
		}
	}
	return sum.primitive()
}

// take returns the number of a column, which is the first one of the row or lies before it, and the rest.
func (r row) take(column int) (exact.Int, row) {
	if len(r) == 0 || r[0].column > column {
		return exact.Of(0), r
	}
	return r[0].value, r[1:]
}

// primitive divides the row by what its numbers have in common, so that they stay as short as they can be.
func (r row) primitive() row {
	common := exact.Of(0)
	for _, e := range r {
		common = common.Divisor(e.value)
		if common.Compare(exact.Of(1)) == 0 {
			return r
		}
	}
	for at, e := range r {
		r[at].value = quotient(e.value, common)
	}
	return r
}

func quotient(a, divisor exact.Int) exact.Int {
	q, _ := a.Quo(divisor)
	return q
}
