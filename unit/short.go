package unit

import (
	"cmp"
	"iter"
	"strconv"
	"strings"
	"sync"

	"metewand/api"
	"metewand/dim"
	"metewand/exact"
	"metewand/stop"
)

// A size is a factor and a dimension; equal ones are equal structs.
type size struct {
	factor    exact.Ratio
	dimension string
}

// marked returns a text of exponents that no others have.
func marked(e exact.Exponents) string {
	var parts []string
	for _, p := range e.Powers() {
		parts = append(parts, p.Base, p.Exp.Num, p.Exp.Den)
	}
	return strings.Join(parts, " ")
}

// A candidate is a text, or the end of one, and how many factors it has.
type candidate struct {
	text    string
	factors int
}

// before returns whether a candidate is better than another one.
func (c candidate) before(d candidate) bool {
	return cmp.Or(cmp.Compare(len(c.text), len(d.text)), cmp.Compare(c.factors, d.factors), strings.Compare(c.text, d.text)) < 0
}

// A best keeps the best one of the things that it is shown.
type best[T any] struct {
	kept   T
	some   bool
	before func(a, b T) bool
}

// see shows it things.
func (b *best[T]) see(things ...T) {
	for _, x := range things {
		if !b.some || b.before(x, b.kept) {
			b.kept, b.some = x, true
		}
	}
}

// A want is the factor and the dimension of a text that is looked for.
type want struct {
	factor exact.Ratio
	dim    []api.Power
}

// wanted returns the factor and the dimension that are given, which have to be valid.
func wanted(factor api.Rat, powers []api.Power) want {
	w := want{positive(factor), powers}
	stop.Pass(dim.Check(powers))
	return w
}

// A search looks for the shortest text by way of the first factor: what then remains is looked up.
type search struct {
	registry
	want
	ends map[size]candidate
}

// shortest returns the shortest text with at most two factors.
func (r registry) shortest(w want) string {
	s := search{r, w, r.ends()}
	found := best[candidate]{before: candidate.before}
	for c := range s.sideBySide() {
		found.see(c)
	}
	stop.Demand(found.some, api.ErrNone)
	return found.kept.text
}

// sideBySide returns the best candidates by what they begin with: nothing, or a word of an entry.
func (s search) sideBySide() <-chan candidate {
	out := make(chan candidate, 1+len(s.Entries))
	if dimension := s.rest(nil, 0); s.factor == one() && dimension == "" {
		out <- candidate{nothing, 0}
	}
	var group sync.WaitGroup
	for entry := range s.Entries {
		group.Add(1)
		go func() {
			defer group.Done()
			if found := s.beginning(entry); found.some {
				out <- found.kept
			}
		}()
	}
	group.Wait()
	close(out)
	return out
}

// beginning returns the best candidate whose first factor is a power of an entry.
func (s search) beginning(entry int) best[candidate] {
	found := best[candidate]{before: candidate.before}
	for n := range exponents() {
		dimension := s.rest(s.Entries[entry].Dim, n)
		for word, factor := range s.words(entry) {
			left := s.factor.Over(factor.Power(n))
			if end, is := s.ends[size{left, dimension}]; is {
				found.see(candidate{first(word, n) + end.text, 1 + end.factors})
			}
		}
	}
	return found
}

// rest returns what remains of the dimension without a power of a factor.
func (s search) rest(d []api.Power, n int) string {
	left := exact.Exponents{}
	left.Multiply(s.dim, one())
	left.Multiply(d, exact.Whole(exact.Of(-n)))
	return marked(left)
}

// ends returns the best ends of texts behind the first factor by what they are: no factor, or one.
func (r registry) ends() map[size]candidate {
	found := map[size]candidate{{one(), ""}: {}}
	for entry, e := range r.Entries {
		for n := range exponents() {
			power := exact.Exponents{}
			power.Multiply(e.Dim, exact.Whole(exact.Of(n)))
			dimension := marked(power)
			for word, factor := range r.words(entry) {
				what, end := size{factor.Power(n), dimension}, candidate{second(word, n), 1}
				if known, is := found[what]; !is || end.before(known) {
					found[what] = end
				}
			}
		}
	}
	return found
}

// words yields the words that stand for an entry, and are allowed beside others, with their factors.
func (r registry) words(entry int) iter.Seq2[string, exact.Ratio] {
	return func(yield func(word string, factor exact.Ratio) bool) {
		for number := range 1 + len(r.Prefixes) {
			s := sense{number + noPrefix, entry}
			word := r.Entries[entry].Name
			if s.prefix != noPrefix {
				word = r.Prefixes[s.prefix].Name + word
			}
			// The word may stand for another entry, or by another prefix.
			if got, e := r.find(word); e != api.OK || got != s || r.offsetOf(s).Sign() != 0 {
				continue
			}
			if !yield(word, r.factorOf(s)) {
				return
			}
		}
	}
}

// exponents yields those that a factor of a shortest text may have.
func exponents() iter.Seq[int] {
	return func(yield func(int) bool) {
		for n := -api.UnitShort; n <= api.UnitShort; n++ {
			if n != 0 && !yield(n) {
				return
			}
		}
	}
}

// first returns the shortest way to write a power of a word as the first factor.
func first(word string, n int) string {
	if n == -1 {
		return below + word
	}
	return power(word, n)
}

// second returns the shortest way to write a power of a word behind another factor.
func second(word string, n int) string {
	if n < 0 {
		return over + power(word, -n)
	}
	return times + power(word, n)
}

func power(word string, n int) string {
	if n == 1 {
		return word
	}
	return word + raisedTo + strconv.Itoa(n)
}
