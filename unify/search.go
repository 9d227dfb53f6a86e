package unify

import (
	"iter"
	"slices"
	"sync"

	"metewand/exact"
)

// A word is a product of equations in which no variables are left: its exponents of the equations, and behind them those of some bases.
type word[N number[N]] struct {
	row[N]
	own   int  // an equation that is not chosen, and that no other word of its table has
	uses  set  // the equations whose exponents are not 0
	clash bool // whether there is a dimension
}

// A table is words of which all those are products that may still be looked for. Equations that are chosen are in what is looked for. As each word has an equation of its own, which stays in every product with it, a product uses as many other equations as words at least.
type table[N number[N]] struct {
	equations int
	words     []word[N]
	chosen    set
	tidy      func(*word[N]) // makes the numbers of a word shorter
}

// tableOf returns the table of products, in which nothing is chosen.
func tableOf[N number[N]](p products, convert func(exact.Int) N, tidy func(*word[N])) table[N] {
	t := table[N]{equations: p.equations, tidy: tidy}
	bases := p.bases()
	for at, e := range p.list {
		exps := e.made.cells
		for _, base := range bases {
			exps = append(exps, e.exponent(base))
		}
		w := word[N]{own: p.own[at]}
		for _, exp := range wholes(exps) {
			w.cells = append(w.cells, convert(exp))
		}
		w.look(t.equations)
		t.words = append(t.words, w)
	}
	return t
}

// look finds out which equations a word uses, and whether it has a dimension.
func (w *word[N]) look(equations int) {
	w.uses, w.clash = 0, false
	for at, cell := range w.cells {
		switch {
		case cell.Sign() == 0:
		case at < equations:
			w.uses |= just(at)
		default:
			w.clash = true
		}
	}
}

// exchange returns the table in which another equation of a word is its own.
func (t table[N]) exchange(w word[N], own int) table[N] {
	t.words = slices.Clone(t.words)
	memory := make([]N, 0, len(t.words)*len(w.cells)) // of all words, as that is faster
	for at := range t.words {
		other := &t.words[at]
		if !other.uses.has(own) {
			continue
		}
		begin := len(memory)
		memory = append(memory, other.cells...)
		other.cells = memory[begin:len(memory):len(memory)]
		if other.own == w.own {
			other.own = own
		} else {
			other.cancel(w.row, own)
			other.look(t.equations)
		}
		t.tidy(other)
	}
	return t
}

// without returns the table of the products that do not use the own equation of a word.
func (t table[N]) without(own int) table[N] {
	at := t.place(own)
	t.words = append(t.words[:at:at], t.words[at+1:]...)
	return t
}

// place returns where the word is that has an equation of its own.
func (t table[N]) place(own int) int {
	return slices.IndexFunc(t.words, func(w word[N]) bool { return w.own == own })
}

// A search is for contradictions that are better than the best one that is known: of fewer equations, or, once there are none, of as many that come before.
type search struct {
	fewer bool
	size  int
	best  set // it is empty as long as none is known
}

// note takes note of a contradiction.
func (s *search) note(list set) {
	many := list.count()
	if many < s.size || many == s.size && (s.best == 0 || list.before(s.best)) {
		s.size, s.best = many, list
	}
}

// room returns how many equations there may be beside the chosen ones.
func (s *search) room(chosen set) int {
	if s.fewer {
		return s.size - chosen.count() - 1
	}
	return s.size - chosen.count()
}

// noteAll takes note of the words that have a dimension.
func (t table[N]) noteAll(s *search) {
	for _, w := range t.words {
		if w.clash {
			s.note(w.uses)
		}
	}
}

// fewest returns the least list of the fewest equations that contradict each other. There is one, so a word has a dimension.
func (t table[N]) fewest() set {
	s := &search{size: t.equations}
	t.wander(s)
	for _, s.fewer = range [...]bool{true, false} {
		t.sideBySide(s)
	}
	return s.best
}

// rounds is how often each word gets another equation of its own before the search.
const rounds = 5

// wander sees what tables with other equations of their own have. The better the best contradiction is that is known, the sooner it is certain that there is no better one.
func (t table[N]) wander(s *search) {
	t.noteAll(s)
	for step := range rounds * len(t.words) {
		w := t.words[step%len(t.words)]
		if others := (w.uses &^ just(w.own)).numbers(); len(others) > 0 {
			t = t.exchange(w, others[step%len(others)])
			t.noteAll(s)
		}
	}
}

// A branch is a part of a search: for what uses the own equation of a word of a table, beside the chosen ones.
type branch[N number[N]] struct {
	table[N]
	word word[N]
}

// sideBySide searches the table. The branches of branches are asked side by side, as one branch alone often takes most of the time.
func (t table[N]) sideBySide(s *search) {
	var all []branch[N]
	for first := range t.branches(s) {
		for second := range first.next().branches(s) {
			all = append(all, second)
		}
	}
	found := make(chan set, len(all))
	var group sync.WaitGroup
	for _, b := range all {
		group.Add(1)
		go func(own search) {
			defer group.Done()
			b.search(&own)
			found <- own.best
		}(*s)
	}
	group.Wait()
	close(found)
	for best := range found {
		s.note(best)
	}
}

// search searches the branch.
func (b branch[N]) search(s *search) {
	for next := range b.next().branches(s) {
		next.search(s)
	}
}

// next returns the table of a branch. If its word has no equation but chosen ones, nothing that has these is better than it, and so the table is empty.
func (b branch[N]) next() table[N] {
	others := b.word.uses &^ b.chosen &^ just(b.word.own)
	if others == 0 {
		return table[N]{}
	}
	t := b.exchange(b.word, b.rarest(others))
	t.chosen |= just(b.word.own)
	return t
}

// rarest returns the equation of a list that the fewest words use.
func (t table[N]) rarest(list set) int {
	best, fewest := 0, len(t.words)+1
	for number := range list.each() {
		uses := 0
		for _, w := range t.words {
			if w.uses.has(number) {
				uses++
			}
		}
		if uses < fewest {
			best, fewest = number, uses
		}
	}
	return best
}

// branches takes note of what is seen in a table, and goes through its branches: what may be better has the own equation of one of its words, or not this one but that of another one, and so on. A single word is known.
func (t table[N]) branches(s *search) iter.Seq[branch[N]] {
	t.noteAll(s)
	return func(yield func(branch[N]) bool) {
		if s.room(t.chosen) < 2 { // what uses one equation more is a word of the table
			return
		}
		left := t.joined()
		for own := range left.needed(s).each() {
			if len(left.words) == 1 || !yield(branch[N]{left, left.words[left.place(own)]}) {
				return
			}
			left = left.without(own)
		}
	}
}

// joined returns the table of the words that are joined, by equations that they share, to all chosen ones. What is made of parts that share nothing is no contradiction of the fewest equations.
func (t table[N]) joined() table[N] {
	if t.chosen == 0 {
		return t
	}
	part := just(t.chosen.first())
	for grown := true; grown; {
		grown = false
		for _, w := range t.words {
			if w.uses&part != 0 && w.uses&^part != 0 {
				part |= w.uses
				grown = true
			}
		}
	}
	if t.chosen&^part != 0 {
		return table[N]{}
	}
	apart := func(w word[N]) bool { return w.uses&part == 0 }
	if slices.ContainsFunc(t.words, apart) {
		t.words = slices.DeleteFunc(slices.Clone(t.words), apart)
	}
	return t
}

// promising returns whether there can be something better: once it cannot be of fewer equations, the least ones of the words have to make a list that comes before.
func (t table[N]) promising(s *search) bool {
	if s.fewer {
		return true
	}
	var others set
	for _, w := range t.words {
		others |= w.uses &^ t.chosen
	}
	room := s.room(t.chosen)
	return others.count() >= room && (t.chosen | others.lowest(room)).before(s.best)
}

// own returns the own equations of words.
func (t table[N]) own(which func(word[N]) bool) set {
	var list set
	for _, w := range t.words {
		if which(w) {
			list |= just(w.own)
		}
	}
	return list
}

// needed returns own equations of words of which what is looked for has one: there has to be a word with each chosen equation, and one with a dimension. It returns the shortest list, but none if nothing can be better.
func (t table[N]) needed(s *search) set {
	if !t.promising(s) {
		return 0
	}
	needed := t.own(func(w word[N]) bool { return w.clash })
	for number := range t.chosen.each() {
		if need := t.own(func(w word[N]) bool { return w.uses.has(number) }); need.count() < needed.count() {
			needed = need
		}
	}
	return needed
}
