package unit_test

import (
	"maps"
	"slices"
	"strconv"
	"strings"
	"testing"

	"metewand/api"
	"metewand/dim"
	"metewand/ratio"
	"metewand/unit"
)

const rounds = 60

// spots calls what is to be checked with some books, a version, and the words that are unit texts in it.
func spots(t *testing.T, seed *source, offsets bool, check func(b api.UnitBook, version int, all []string)) {
	t.Helper()
	count := 0
	for range rounds {
		b, version := seed.book(t, 3, 8), seed.below(api.UnitVersion+1)
		if all := alone(b, version, offsets); len(all) > 0 {
			count++
			check(b, version, all)
		}
	}
	if count < rounds/2 {
		t.Errorf("only %d books have words", count)
	}
}

// compound returns a text with up to so many factors of some words, if it is not too long.
func (s *source) compound(words []string, most int) string {
	for {
		text := []string{"", "", "1/"}[s.below(3)]
		for i := range 1 + s.below(most) {
			if i > 0 {
				text += []string{" ", "/"}[s.below(2)]
			}
			text += words[s.below(len(words))] + []string{"", "", "^2", "^-1", "^3", "^1", "^-2"}[s.below(7)]
		}
		if len(text) <= api.ReadUnit {
			return text
		}
	}
}

// alike returns texts of some words that have the same dimension as the first one.
func alike(t *testing.T, b api.UnitBook, version int, texts []string) []string {
	t.Helper()
	var out []string
	for _, text := range texts {
		if words(resolve(t, b, version, text).Dim) == words(resolve(t, b, version, texts[0]).Dim) {
			out = append(out, text)
		}
	}
	return out
}

// several returns words, and compounds of them that are without offsets.
func (s *source) several(t *testing.T, b api.UnitBook, version int, all []string) []string {
	t.Helper()
	texts := []string{all[s.below(len(all))]}
	steps := alone(b, version, false)
	for range 30 {
		texts = append(texts, all[s.below(len(all))])
		if len(steps) > 0 {
			texts = append(texts, s.compound(steps, 3))
		}
	}
	return texts
}

// P4.8 and P4.9
func TestBackAndSteps(t *testing.T) {
	seed := source(8)
	spots(t, &seed, true, func(b api.UnitBook, version int, all []string) {
		like := alike(t, b, version, seed.several(t, b, version, all))
		for range 20 {
			u, v, w := like[seed.below(len(like))], like[seed.below(len(like))], like[seed.below(len(like))]
			x, y := seed.number(50), seed.number(50)
			there := convert(t, b, version, x, u, v)
			same(t, "back", convert(t, b, version, there, v, u), x)
			same(t, "by way of a third one", convert(t, b, version, there, v, w), convert(t, b, version, x, u, w))
			same(t, "to itself", convert(t, b, version, x, u, u), x)
			same(t, "step", minus(t, there, convert(t, b, version, y, u, v)), step(t, b, version, minus(t, x, y), u, v))
			same(t, "step of a sum", step(t, b, version, plus(t, x, y), u, v), plus(t, step(t, b, version, x, u, v), step(t, b, version, y, u, v)))
			same(t, "step back", step(t, b, version, step(t, b, version, x, u, v), v, u), x)
			_, from, _ := unit.Resolve(b, version, u)
			_, to, _ := unit.Resolve(b, version, v)
			if from == rat("0") && to == from {
				same(t, "without offsets", step(t, b, version, x, u, v), there)
			}
			base := plus(t, times(t, x, resolve(t, b, version, u).Factor), from)
			same(t, "in base units", base, plus(t, times(t, there, resolve(t, b, version, v).Factor), to))
		}
	})
}

// P4.10
func TestProducts(t *testing.T) {
	seed := source(10)
	spots(t, &seed, false, func(b api.UnitBook, version int, all []string) {
		for range 30 {
			first, second, one := seed.compound(all, 2), seed.compound(all, 2), seed.compound(all, 1)
			if second[0] == '1' || one[0] == '1' || len(first)+max(len(second), len(one)) >= api.ReadUnit {
				continue
			}
			u, v, w := resolve(t, b, version, first), resolve(t, b, version, second), resolve(t, b, version, one)
			product := resolve(t, b, version, first+" "+second)
			quotient := resolve(t, b, version, first+"/"+one)
			same(t, first+" "+second, product.Factor, times(t, u.Factor, v.Factor))
			same(t, first+"/"+one, times(t, quotient.Factor, w.Factor), u.Factor)
			d, e := dim.Mul(u.Dim, v.Dim)
			expect(t, first+" "+second, fine(words(product.Dim)), text(words(d), e))
			d, e = dim.Div(u.Dim, w.Dim)
			expect(t, first+"/"+one, fine(words(quotient.Dim)), text(words(d), e))
			inverse := resolve(t, b, version, "1/"+one)
			n, _ := ratio.Div(rat("1"), w.Factor)
			same(t, "1/"+one, inverse.Factor, n)
		}
	})
}

// texts returns all unit texts, with at most two factors, of words with exponents from -3 to 3, however they are written.
func texts(words []string) []string {
	var powers []string
	for _, word := range words {
		powers = append(powers, word)
		for n := -api.UnitShort; n <= api.UnitShort; n++ {
			if n != 0 {
				powers = append(powers, word+"^"+strconv.Itoa(n))
			}
		}
	}
	out := []string{"1"}
	for _, p := range powers {
		for _, front := range []string{p, "1/" + p} {
			out = append(out, front)
			for _, q := range powers {
				out = append(out, front+" "+q, front+"/"+q)
			}
		}
	}
	return out
}

// better returns whether the first text is to be returned rather than the second one.
func better(a, b string) bool {
	factors := func(s string) int {
		if s == "1" {
			return 0
		}
		s = strings.TrimPrefix(s, "1/")
		return 1 + strings.Count(s, " ") + strings.Count(s, "/")
	}
	if len(a) != len(b) {
		return len(a) < len(b)
	}
	if factors(a) != factors(b) {
		return factors(a) < factors(b)
	}
	return a < b
}

// P4.7 and P4.11, by all texts that there are
func TestShortOfAllTexts(t *testing.T) {
	seed := source(11)
	for range 25 {
		b, version := seed.book(t, 2, 4), seed.below(api.UnitVersion+1)
		bests, all := map[string]string{}, map[string]api.Unit{}
		for _, s := range texts(wordsOf(b)) {
			u, offset, e := unit.Resolve(b, version, s)
			if e != api.OK || offset != rat("0") {
				continue
			}
			what := plain(u)
			if known, is := bests[what]; !is || better(s, known) {
				bests[what], all[what] = s, u
			}
		}
		whats := slices.Sorted(maps.Keys(bests))
		for _, what := range whats[:min(150, len(whats))] {
			u := all[what]
			expect(t, "Short of "+what+" with "+described(b), text(unit.Short(b, version, u.Factor, u.Dim)), fine(bests[what]))
			other := times(t, u.Factor, rat("7/5"))
			want := none(api.ErrNone)
			if best, is := bests[plain(api.Unit{Factor: other, Dim: u.Dim})]; is {
				want = fine(best)
			}
			expect(t, "Short of 7/5 of "+what, text(unit.Short(b, version, other, u.Dim)), want)
		}
	}
}

// P4.12
func TestMoves(t *testing.T) {
	seed := source(12)
	moved := 0
	for range rounds {
		b := seed.book(t, 3, 8)
		for _, text := range append(wordsOf(b), "a/k", "k^2 m") {
			x := seed.number(50)
			list, _ := unit.Versions(b, text)
			for _, from := range list {
				for _, to := range list {
					y, e := unit.Move(b, x, text, from, to)
					u, v := resolve(t, b, from, text), resolve(t, b, to, text)
					if words(u.Dim) != words(v.Dim) {
						expect(t, "Move of "+text, number(y, e), none(api.ErrUnits))
						continue
					}
					same(t, "Move back of "+text, move(t, b, y, text, to, from), x)
					if u.Factor != v.Factor {
						moved++
					}
					_, entry, _ := unit.Find(b, from, text)
					_, other, e := unit.Find(b, to, text)
					if e == api.OK && entry == other && u.Factor == v.Factor {
						same(t, "nothing changes for "+text, y, x)
					}
				}
			}
		}
	}
	if moved < 20 {
		t.Errorf("only %d numbers changed", moved)
	}
}

// scaled returns what a dimension with whole exponents is of new base units.
func scaled(t *testing.T, d []api.Power, scale map[string]string) api.Rat {
	t.Helper()
	factor := rat("1")
	for _, p := range d {
		n, _ := strconv.Atoi(p.Exp.Num)
		power := must[api.Rat](t, "Pow")(ratio.Pow(rat(scale[p.Base]), n))
		factor = times(t, factor, power)
	}
	return factor
}

// P4.13
func TestBases(t *testing.T) {
	seed := source(13)
	scale := map[string]string{"m": "2/7", "s": "60"}
	spots(t, &seed, true, func(b api.UnitBook, version int, all []string) {
		if slices.ContainsFunc(b.Entries, func(e api.UnitEntry) bool { return words(e.Dim) == "s^1/2" }) {
			return
		}
		other := api.UnitBook{Prefixes: b.Prefixes, Entries: slices.Clone(b.Entries)}
		for i, e := range other.Entries {
			factor := scaled(t, e.Dim, scale)
			other.Entries[i].Factor, other.Entries[i].Offset = times(t, e.Factor, factor), times(t, e.Offset, factor)
		}
		like := alike(t, b, version, seed.several(t, b, version, all))
		for range 20 {
			u, v, x := like[seed.below(len(like))], like[seed.below(len(like))], seed.number(50)
			same(t, "Convert in other base units", convert(t, other, version, x, u, v), convert(t, b, version, x, u, v))
			same(t, "Step in other base units", step(t, other, version, x, u, v), step(t, b, version, x, u, v))
		}
	})
}

// P4.14
func TestMoreEntries(t *testing.T) {
	seed := source(14)
	spots(t, &seed, true, func(b api.UnitBook, version int, all []string) {
		direct := slices.DeleteFunc(slices.Clone(all), func(word string) bool {
			prefix, _, _ := unit.Find(b, version, word)
			return prefix >= 0
		})
		if len(direct) == 0 {
			return
		}
		prefix := api.UnitPrefix{Name: "Kaaa", Factor: rat("7")}
		more := api.UnitBook{Prefixes: append(slices.Clone(b.Prefixes), prefix), Entries: b.Entries}
		wider := api.UnitBook{Prefixes: b.Prefixes, Entries: append(slices.Clone(b.Entries), entries("mmmm+ 9 0 s, kaak 8 1 m")...)}
		for range 10 {
			for _, text := range []string{direct[seed.below(len(direct))], seed.compound(direct, 3)} {
				want := resolved(unit.Resolve(b, version, text))
				expect(t, text+" with one more prefix", resolved(unit.Resolve(more, version, text)), want)
				expect(t, text+" with more entries", resolved(unit.Resolve(wider, version, text)), want)
			}
		}
	})
}
