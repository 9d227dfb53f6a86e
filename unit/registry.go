package unit

import (
	"strings"

	"metewand/api"
	"metewand/exact"
	"metewand/stop"
)

// A registry is a book at work, in one of its versions.
type registry struct {
	api.UnitBook
	there map[string]int // the numbers of the entries that are there, by their names
}

// in returns the registry of a version.
func (b book) in(version int) registry {
	stop.Demand(version >= 0 && version <= api.UnitVersion, api.ErrRange)
	r := registry{b.UnitBook, map[string]int{}}
	for number, e := range b.Entries {
		if e.Since <= version && version <= e.Until {
			r.there[e.Name] = number
		}
	}
	return r
}

// A sense is what a word stands for: an entry, by a prefix or by none.
type sense struct{ prefix, entry int }

const noPrefix = -1

// find returns what a word stands for.
func (r registry) find(word string) (sense, api.Errno) {
	if !isWord(word) {
		return sense{}, api.ErrName
	}
	if entry, is := r.there[word]; is {
		return sense{noPrefix, entry}, api.OK
	}
	for prefix, p := range r.Prefixes {
		name, is := strings.CutPrefix(word, p.Name)
		if !is {
			continue
		}
		if entry, is := r.there[name]; is && r.Entries[entry].Prefixed == 1 {
			return sense{prefix, entry}, api.OK
		}
	}
	return sense{}, api.ErrNone
}

// stand returns what the word of a factor stands for in a text.
func (r registry) stand(f factor, in unitText) (sense, api.Errno) {
	s, e := r.find(f.word)
	if e == api.OK && !in.alone(f) && r.offsetOf(s).Sign() != 0 {
		return sense{}, api.ErrKind
	}
	return s, e
}

// versions returns the versions in which the text is a unit text.
func (b book) versions(t unitText) []int {
	var list []int
versions:
	for version := range api.UnitVersion + 1 {
		r := b.in(version)
		for f := range t.factors() {
			if _, e := r.stand(f, t); e != api.OK {
				continue versions
			}
		}
		list = append(list, version)
	}
	return list
}

// factorOf returns the factor of what a word stands for.
func (r registry) factorOf(s sense) exact.Ratio {
	own := exact.Ratio{Rat: r.Entries[s.entry].Factor}
	if s.prefix == noPrefix {
		return own
	}
	return own.Times(exact.Ratio{Rat: r.Prefixes[s.prefix].Factor})
}

// offsetOf returns the offset of what a word stands for.
func (r registry) offsetOf(s sense) exact.Ratio { return exact.Ratio{Rat: r.Entries[s.entry].Offset} }

// A meaning is what a text stands for: a factor and exponents of any length, and an offset.
type meaning struct {
	text unitText
	exact.Exponents
	factor, offset exact.Ratio
}

// resolve returns the meaning of a text, which has to be a unit text.
func (r registry) resolve(text string) meaning {
	m := meaning{read(text), exact.Exponents{}, one(), zero()}
	for f := range m.text.factors() {
		s, e := r.stand(f, m.text)
		stop.Pass(e)
		m.Multiply(r.Entries[s.entry].Dim, exact.Whole(exact.Of(f.exponent)))
		m.factor = m.factor.Times(r.factorOf(s).Power(f.exponent))
		m.offset = r.offsetOf(s)
	}
	return m
}

// resolveAll returns the meanings of texts, which have to differ, and to be without offsets.
func (r registry) resolveAll(texts []string) []meaning {
	stop.Demand(len(texts) <= api.EvalUnits, api.ErrMany)
	met := map[string]bool{}
	var all []meaning
	for _, text := range texts {
		m := r.resolve(text)
		stop.Demand(!met[text], api.ErrTwice)
		stop.Demand(m.offset.Sign() == 0, api.ErrKind)
		met[text] = true
		all = append(all, m)
	}
	return all
}

// unit returns the meaning as a unit, unless a number of it is too large.
func (m meaning) unit() api.Unit {
	return api.Unit{Name: string(m.text), Factor: m.factor.Result(), Dim: m.Exponents.Result()}
}
