package unify

// A number is one of a kind in which a product is 0 just if a factor is.
type number[N any] interface {
	Minus(N) N
	Times(N) N
	Sign() int
}

// A row is numbers by their places.
type row[N number[N]] struct{ cells []N }

// take takes another row, times a number, from the row.
func (r *row[N]) take(other row[N], times N) {
	for at, cell := range other.cells {
		if cell.Sign() != 0 {
			r.cells[at] = r.cells[at].Minus(cell.Times(times))
		}
	}
}

// scale multiplies all numbers of the row.
func (r *row[N]) scale(factor N) {
	for at, cell := range r.cells {
		if cell.Sign() != 0 {
			r.cells[at] = cell.Times(factor)
		}
	}
}

// cancel takes a multiple of another row from a multiple of the row, so that both numbers at a place make 0.
func (r *row[N]) cancel(other row[N], place int) {
	times, less := other.cells[place], r.cells[place]
	for at, cell := range r.cells {
		if cell.Sign() != 0 {
			cell = cell.Times(times)
		}
		if other.cells[at].Sign() != 0 {
			cell = cell.Minus(other.cells[at].Times(less))
		}
		r.cells[at] = cell
	}
}

// first returns the first place of a number that is not 0.
func (r *row[N]) first() (place int, is bool) {
	for at, cell := range r.cells {
		if cell.Sign() != 0 {
			return at, true
		}
	}
	return 0, false
}
