package unit_test

import (
	"slices"
	"strconv"
	"sync"
	"testing"

	"metewand/api"
	"metewand/unit"
)

// P1 and R3: whatever the arguments are, a function returns, an error is one of the chapter, and with it there is nothing else.
func TestAnyArguments(t *testing.T) {
	books := []api.UnitBook{{}, example(), long(), {Prefixes: make([]api.UnitPrefix, 3)}, {Entries: make([]api.UnitEntry, 3)}, {Entries: make([]api.UnitEntry, 1<<12)}}
	for _, x := range invalid {
		books = append(books, book(x.prefixes, x.entries))
	}
	for _, x := range valid {
		books = append(books, book(x[0], x[1]))
	}
	ns := []api.Rat{{}, rat("0"), rat("-1/2"), rat("1"), rat("2/4"), rat(nearly), rat("1/" + large), {Num: "\xff", Den: "\xff"}}
	texts := []string{"", "m", "1", "C", "m^-9 km^9 m^9/km^9", "1/", "m^", "league/h", "\xf0\x9f", "abcdefg", repeat("^", 300), "K/s", "m m m m m", "ft", "s", "F", "1/C"}
	dims := [][]api.Power{nil, pw("m"), pw("m^" + nearly), pw("s m"), {{}}, pw("m^1/2 s^-3"), {{Base: repeat("m", 1<<16), Exp: rat("1")}}}
	seed := source(1)
	for i, b := range books {
		for range 60 {
			list := texts[seed.below(len(texts)):]
			x := arguments{seed.below(12) - 1, seed.below(12) - 1, ns[seed.below(len(ns))], list[0], texts[seed.below(len(texts))], list, dims[seed.below(len(dims))]}
			for _, c := range calls(b, x) {
				name := c.name + " of book " + strconv.Itoa(i) + ", " + brief(x.from) + ", " + brief(shown(x.x))
				switch c.got.e {
				case api.OK:
					continue
				case api.ErrForm, api.ErrValue, api.ErrRange, api.ErrName, api.ErrTwice, api.ErrOrder, api.ErrMany, api.ErrKind, api.ErrUnits, api.ErrLarge, api.ErrNone:
				default:
					t.Errorf("%s: error %d", name, c.got.e)
				}
				if c.got.text != "" {
					t.Errorf("%s: error %d, but also %s", name, c.got.e, brief(c.got.text))
				}
			}
		}
	}
}

// some returns a book, and valid arguments for it.
func (s *source) some(t *testing.T) (api.UnitBook, arguments) {
	b := s.book(t, 4, 10)
	all := append(wordsOf(b), "1", "m/k")
	x := arguments{s.below(10), s.below(10), s.factor(), all[s.below(len(all))], all[s.below(len(all))], all[:min(3, len(all))], pw(dimensions[s.below(len(dimensions))])}
	return b, x
}

// R2 and R6: a result depends on the arguments alone, whatever else is computed before, or at the same time.
func TestSideBySide(t *testing.T) {
	seed := source(2)
	var books []api.UnitBook
	var all []arguments
	var want [][]call
	for range 40 {
		b, x := seed.some(t)
		books, all, want = append(books, b), append(all, x), append(want, calls(b, x))
	}
	var group sync.WaitGroup
	for range 8 {
		group.Add(1)
		go func() {
			defer group.Done()
			for i, x := range all {
				if !slices.Equal(calls(books[i], x), want[i]) {
					t.Errorf("%s: not what it was before", described(books[i]))
				}
			}
		}()
	}
	group.Wait()
}

// filled returns a book and arguments whose lists have room behind them, which is no part of an argument.
func filled() (b api.UnitBook, x arguments, whole func() string) {
	all := example()
	dims, texts := pw("kg m s temp"), []string{"m", "km", "m/s", "1", "C", "C"}
	dims[1].Exp, dims[2].Exp = rat("2"), rat("-2")
	all.Entries[0].Dim = dims[1:2]
	b = api.UnitBook{Prefixes: all.Prefixes[:1], Entries: all.Entries[:7]}
	x = arguments{0, 9, rat("3"), "m", "km", texts[:4], dims[1:3]}
	return b, x, func() string {
		text := described(all) + "; " + words(dims)
		for _, s := range texts {
			text += ", " + s
		}
		return text
	}
}

// R4: arguments are not changed, nor what lies behind them; and results share no memory with them, nor with each other.
func TestMemory(t *testing.T) {
	b, x, whole := filled()
	before, first := whole(), calls(b, x)
	if whole() != before {
		t.Fatalf("%s has become %s", before, whole())
	}
	list := must[[]api.Unit](t, "List")(unit.List(b, 0, x.texts))
	single := resolve(t, b, 0, "m")
	changed := func(d []api.Power) {
		for i := range d[:cap(d)] {
			d[:cap(d)][i] = api.Power{Base: "changed"}
		}
	}
	changed(single.Dim)
	changed(list[0].Dim)
	if plain(list[1]) != "1000 m^2" || plain(list[2]) != "1 m^2 s^-1" {
		t.Errorf("a unit shares memory with another one: %s, %s", plain(list[1]), plain(list[2]))
	}
	found := must[[]int](t, "Versions")(unit.Versions(b, "m"))
	for i := range found {
		found[i] = -1
	}
	if whole() != before || !slices.Equal(calls(b, x), first) {
		t.Errorf("%s has become %s", before, whole())
	}
}

// R4: a nil list is an empty one.
func TestEmptyLists(t *testing.T) {
	empty := api.UnitBook{Entries: []api.UnitEntry{}, Prefixes: []api.UnitPrefix{}}
	x := arguments{x: rat("1"), from: "1", second: "1"}
	y := x
	y.texts, y.dim = []string{}, []api.Power{}
	if got, want := calls(empty, y), calls(api.UnitBook{}, x); !slices.Equal(got, want) {
		t.Errorf("got %v, want %v", got, want)
	}
	b := book("", "m 1 0")
	b.Entries[0].Dim = []api.Power{}
	expect(t, "Convert without a dimension", number(unit.Convert(b, 0, rat("5"), "m", "1")), fine("5"))
	expect(t, "Short without a dimension", text(unit.Short(b, 0, rat("1"), []api.Power{})), fine("1"))
}
