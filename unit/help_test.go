package unit_test

import (
	"slices"
	"strconv"
	"strings"
	"testing"

	"metewand/api"
	"metewand/ratio"
	"metewand/unit"
)

// rat returns the number of a text like -3/2, in lowest terms or not.
func rat(text string) api.Rat {
	num, den, is := strings.Cut(text, "/")
	if !is {
		den = "1"
	}
	return api.Rat{Num: num, Den: den}
}

// pw returns the powers of a text like "kg m^2 s^-3/2", valid or not.
func pw(text string) []api.Power {
	var out []api.Power
	for _, word := range strings.Fields(text) {
		base, exponent, is := strings.Cut(word, "^")
		if !is {
			exponent = "1"
		}
		out = append(out, api.Power{Base: base, Exp: rat(exponent)})
	}
	return out
}

// prefixes returns the prefixes of a text like "k 1000, c 1/100".
func prefixes(text string) []api.UnitPrefix {
	var out []api.UnitPrefix
	for part := range strings.SplitSeq(text, ", ") {
		if name, factor, is := strings.Cut(part, " "); is {
			out = append(out, api.UnitPrefix{Name: name, Factor: rat(factor)})
		}
	}
	return out
}

// entries returns the entries of a text like "m+ 1 0 m, league@0-3 4000 0 m": the name, with a plus sign if it is prefixed, and the versions if these are not all; the factor, the offset, and the dimension.
func entries(text string) []api.UnitEntry {
	var out []api.UnitEntry
	for part := range strings.SplitSeq(text, ", ") {
		fields := strings.SplitN(part, " ", 4)
		if len(fields) < 3 {
			continue
		}
		e := api.UnitEntry{Factor: rat(fields[1]), Offset: rat(fields[2]), Until: api.UnitVersion}
		name, versions, is := strings.Cut(fields[0], "@")
		if is {
			since, until, _ := strings.Cut(versions, "-")
			e.Since, _ = strconv.Atoi(since)
			e.Until, _ = strconv.Atoi(until)
		}
		name, plus := strings.CutSuffix(name, "+")
		if e.Name = name; plus {
			e.Prefixed = 1
		}
		if len(fields) > 3 {
			e.Dim = pw(fields[3])
		}
		out = append(out, e)
	}
	return out
}

// book returns the book of two such texts.
func book(first, second string) api.UnitBook {
	return api.UnitBook{Prefixes: prefixes(first), Entries: entries(second)}
}

// example is B of the chapter's examples.
func example() api.UnitBook {
	return book("k 1000, c 1/100", "m+ 1 0 m, g+ 1/1000 0 kg, s 1 0 s, h 3600 0 s, K 1 0 temp, C 1 5463/20 temp, F 5/9 45967/180 temp, league@0-3 4000 0 m, league@4-9 4828 0 m")
}

// with returns B with more entries.
func with(more string) api.UnitBook {
	b := example()
	b.Entries = append(b.Entries, entries(more)...)
	return b
}

// shown is a number as the texts of this file have it.
func shown(n api.Rat) string {
	if n.Den == "1" {
		return n.Num
	}
	return n.Num + "/" + n.Den
}

// words is powers as the texts of this file have them.
func words(d []api.Power) string {
	var out []string
	for _, p := range d {
		out = append(out, strings.TrimSuffix(p.Base+"^"+shown(p.Exp), "^1"))
	}
	return strings.Join(out, " ")
}

// plain is a unit without its name as the texts of this file have it.
func plain(u api.Unit) string { return strings.TrimSuffix(shown(u.Factor)+" "+words(u.Dim), " ") }

// brief shortens a text for a message.
func brief(s string) string {
	if len(s) <= 80 {
		return s
	}
	return s[:50] + ".. (" + strconv.Itoa(len(s)) + " bytes)"
}

// outcome is the result of a call as a text, and its error.
type outcome struct {
	text string
	e    api.Errno
}

func only(e api.Errno) outcome              { return outcome{"", e} }
func fine(text string) outcome              { return outcome{text, api.OK} }
func none(e api.Errno) outcome              { return outcome{"", e} }
func text(s string, e api.Errno) outcome    { return outcome{s, e} }
func repeat(digit string, times int) string { return strings.Repeat(digit, times) }
func ten(n int) string                      { return "1" + repeat("0", n) }

// The following have nothing as a text for the results that stand beside an error.

func number(n api.Rat, e api.Errno) outcome {
	if n == (api.Rat{}) {
		return outcome{"", e}
	}
	return outcome{shown(n), e}
}

func found(prefix, entry int, e api.Errno) outcome {
	if e != api.OK && prefix == 0 && entry == 0 {
		return outcome{"", e}
	}
	return outcome{strconv.Itoa(prefix) + " " + strconv.Itoa(entry), e}
}

func resolved(u api.Unit, offset api.Rat, e api.Errno) outcome {
	if u.Name == "" && u.Factor == (api.Rat{}) && len(u.Dim) == 0 && offset == (api.Rat{}) {
		return outcome{"", e}
	}
	return outcome{u.Name + ": " + plain(u) + ", " + shown(offset), e}
}

func units(l []api.Unit, e api.Errno) outcome {
	var out []string
	for _, u := range l {
		out = append(out, u.Name+": "+plain(u))
	}
	return outcome{strings.Join(out, ", "), e}
}

func versions(l []int, e api.Errno) outcome {
	var out []string
	for _, v := range l {
		out = append(out, strconv.Itoa(v))
	}
	return outcome{strings.Join(out, " "), e}
}

// expect checks what a call returns.
func expect(t *testing.T, call string, got, want outcome) {
	t.Helper()
	if got != want {
		t.Errorf("%s: got %s, error %d; want %s, error %d", brief(call), brief(got.text), got.e, brief(want.text), want.e)
	}
}

// must returns the result of a call that has to be without an error.
func must[T any](t *testing.T, call string) func(result T, e api.Errno) T {
	return func(result T, e api.Errno) T {
		t.Helper()
		if e != api.OK {
			t.Fatalf("%s: error %d", call, e)
		}
		return result
	}
}

func plus(t *testing.T, a, b api.Rat) api.Rat {
	t.Helper()
	return must[api.Rat](t, "Add")(ratio.Add(a, b))
}

func minus(t *testing.T, a, b api.Rat) api.Rat {
	t.Helper()
	return must[api.Rat](t, "Sub")(ratio.Sub(a, b))
}

func times(t *testing.T, a, b api.Rat) api.Rat {
	t.Helper()
	return must[api.Rat](t, "Mul")(ratio.Mul(a, b))
}

func convert(t *testing.T, b api.UnitBook, version int, x api.Rat, from, to string) api.Rat {
	t.Helper()
	return must[api.Rat](t, "Convert from "+from+" to "+to)(unit.Convert(b, version, x, from, to))
}

func step(t *testing.T, b api.UnitBook, version int, x api.Rat, from, to string) api.Rat {
	t.Helper()
	return must[api.Rat](t, "Step from "+from+" to "+to)(unit.Step(b, version, x, from, to))
}

func move(t *testing.T, b api.UnitBook, x api.Rat, text string, from, to int) api.Rat {
	t.Helper()
	return must[api.Rat](t, "Move of "+text)(unit.Move(b, x, text, from, to))
}

func resolve(t *testing.T, b api.UnitBook, version int, text string) api.Unit {
	t.Helper()
	u, _, e := unit.Resolve(b, version, text)
	if e != api.OK || u.Name != text {
		t.Fatalf("Resolve of %s: %s, error %d", text, u.Name, e)
	}
	return u
}

// same checks that two numbers are equal.
func same(t *testing.T, law string, a, b api.Rat) {
	t.Helper()
	if a != b {
		t.Errorf("%s: %s is not %s", law, brief(shown(a)), brief(shown(b)))
	}
}

// source is a row of numbers that look like chance, and are the same in each run.
type source uint64

func (s *source) below(n int) int {
	*s = *s*6364136223846793005 + 1442695040888963407
	return int(uint64(*s>>33) % uint64(n))
}

// number returns a number from -most to most with a small denominator.
func (s *source) number(most int) api.Rat {
	n, _ := ratio.Make(strconv.Itoa(s.below(2*most+1)-most), strconv.Itoa(1+s.below(4)))
	return n
}

// factor returns a number greater than 0; some of them are often there.
func (s *source) factor() api.Rat {
	n, _ := ratio.Make(strconv.Itoa(1+s.below(6)), strconv.Itoa(1+s.below(3)))
	return n
}

// word returns a short word of few letters, so that words have many meanings.
func (s *source) word() string {
	var out []byte
	for range 1 + s.below(3) {
		out = append(out, "akmK"[s.below(4)])
	}
	return string(out)
}

// dimensions are those that entries by chance have.
var dimensions = []string{"", "m", "m", "m^2", "m s^-1", "s", "s^1/2", "m^-1"}

// book returns a book with the prefixes and entries of some names; it is valid.
func (s *source) book(t *testing.T, prefixes, entries int) api.UnitBook {
	t.Helper()
	var b api.UnitBook
	for range prefixes {
		p := api.UnitPrefix{Name: s.word(), Factor: s.factor()}
		if !slices.ContainsFunc(b.Prefixes, func(q api.UnitPrefix) bool { return q.Name == p.Name }) {
			b.Prefixes = append(b.Prefixes, p)
		}
	}
	for range entries {
		e := api.UnitEntry{Name: s.word(), Factor: s.factor(), Offset: rat("0"), Dim: pw(dimensions[s.below(len(dimensions))]), Prefixed: s.below(2), Until: api.UnitVersion}
		switch s.below(4) {
		case 0:
			e.Until = s.below(5)
		case 1:
			e.Since = 3 + s.below(7)
		}
		if e.Prefixed == 0 && s.below(3) == 0 {
			e.Offset = s.number(20)
		}
		more := append(b.Entries[:len(b.Entries):len(b.Entries)], e)
		if unit.Check(api.UnitBook{Entries: more}) == api.OK {
			b.Entries = more
		}
	}
	if e := unit.Check(b); e != api.OK {
		t.Fatalf("the book %s is not valid: %d", described(b), e)
	}
	return b
}

// described is a book as a message has it.
func described(b api.UnitBook) string {
	var out []string
	for _, p := range b.Prefixes {
		out = append(out, p.Name+" "+shown(p.Factor))
	}
	for _, e := range b.Entries {
		name := e.Name + repeat("+", max(0, min(e.Prefixed, 9))) + "@" + strconv.Itoa(e.Since) + "-" + strconv.Itoa(e.Until)
		out = append(out, name+" "+shown(e.Factor)+" "+shown(e.Offset)+" "+words(e.Dim))
	}
	return strings.Join(out, ", ")
}

// wordsOf returns all texts that could be words by the names of a book, whether they stand for something or not.
func wordsOf(b api.UnitBook) []string {
	var out []string
	for _, e := range b.Entries {
		out = append(out, e.Name)
		for _, p := range b.Prefixes {
			out = append(out, p.Name+e.Name)
		}
	}
	slices.Sort(out)
	return slices.Compact(out)
}

// alone returns the words that are unit texts in a version, with their offsets or without.
func alone(b api.UnitBook, version int, offsets bool) []string {
	var out []string
	for _, word := range wordsOf(b) {
		if _, offset, e := unit.Resolve(b, version, word); e == api.OK && (offsets || offset == rat("0")) {
			out = append(out, word)
		}
	}
	return out
}
