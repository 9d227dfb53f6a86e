package dim

import (
	"maps"
	"slices"

	"metewand/api"
	"metewand/exact"
)

// A span is what is known of the dimensions of a list. The columns of its rows are first the bases, then the independent dimensions, in their order: a row says by which exponents these make what stands under the bases.
type span struct {
	columns     map[string]int
	independent []int       // their places in the list
	rows        map[int]row // those of independent dimensions, reduced, by the columns in which they begin
	dependent   map[int]row // those of dependent dimensions, by their places in the list
	length      int
}

// dependencies returns what is known of the dimensions of a list.
func dependencies(list []dimension) *span {
	s := &span{columns: columns(list), rows: map[int]row{}, dependent: map[int]row{}, length: len(list)}
	for at, d := range list {
		s.add(at, d)
	}
	return s
}

// columns numbers the bases of dimensions in the order of bytes, in which each dimension has them.
func columns(list []dimension) map[string]int {
	numbers := map[string]int{}
	for _, d := range list {
		for _, p := range d.powers {
			numbers[p.Base] = 0
		}
	}
	for number, base := range slices.Sorted(maps.Keys(numbers)) {
		numbers[base] = number
	}
	return numbers
}

// add looks at the next dimension of the list.
func (s *span) add(at int, d dimension) {
	r := s.start(d).reduce(s.rows)
	if r.begins() >= len(s.columns) {
		s.dependent[at] = r
		return
	}
	s.rows[r.begins()] = r
	s.independent = append(s.independent, at)
}

// start returns the row of a dimension by itself: its exponents, multiplied to be whole, and behind them this multiplier, for the dimension may be independent.
func (s *span) start(d dimension) row {
	multiplier := exact.Of(1)
	for _, p := range d.powers {
		_, under := exact.Ratio{Rat: p.Exp}.Parts()
		multiplier = multiplier.Times(quotient(under, multiplier.Divisor(under)))
	}
	var r row
	for _, p := range d.powers {
		over, under := exact.Ratio{Rat: p.Exp}.Parts()
		r = append(r, entry{s.columns[p.Base], over.Times(quotient(multiplier, under))})
	}
	return append(r[:len(r):len(r)], entry{len(s.columns) + len(s.independent), multiplier})
}

// group returns exponents by which the product has no dimension, with 1 for a dependent dimension; it is none for another one.
func (s *span) group(at int) (group []exact.Ratio, is bool) {
	r, is := s.dependent[at]
	if !is {
		return nil, false
	}
	without := zero()
	for range s.length {
		group = append(group, without)
	}
	own := r[len(r)-1].value
	for _, e := range r[:len(r)-1] {
		group[s.independent[e.column-len(s.columns)]] = exact.Quotient(e.value, own)
	}
	group[at] = one()
	return group, true
}

func negatives(numbers []exact.Ratio) []exact.Ratio {
	var out []exact.Ratio
	for _, n := range numbers {
		out = append(out, n.Negative())
	}
	return out
}

// results returns numbers, unless one is too large.
func results(numbers []exact.Ratio) []api.Rat {
	var out []api.Rat
	for _, n := range numbers {
		out = append(out, n.Result())
	}
	return out
}
