package unit_test

import (
	"slices"
	"strings"
	"testing"

	"metewand/api"
	"metewand/unit"
)

const allVersions = "0 1 2 3 4 5 6 7 8 9"

// The examples of the chapter, in its order.
func TestExamples(t *testing.T) {
	b := example()
	for _, x := range []struct {
		call string
		got  outcome
		want outcome
	}{
		{"Check(B)", only(unit.Check(b)), fine("")},
		{"Find(B, 0, km)", found(unit.Find(b, 0, "km")), fine("0 0")},
		{"Find(B, 0, cm)", found(unit.Find(b, 0, "cm")), fine("1 0")},
		{"Find(B, 0, m)", found(unit.Find(b, 0, "m")), fine("-1 0")},
		{"Find(B, 0, kC)", found(unit.Find(b, 0, "kC")), none(api.ErrNone)},
		{"Find(B, 4, league)", found(unit.Find(b, 4, "league")), fine("-1 8")},
		{"Find(B, 0, m2)", found(unit.Find(b, 0, "m2")), none(api.ErrName)},
		{"Resolve(B, 0, kg m/s^2)", resolved(unit.Resolve(b, 0, "kg m/s^2")), fine("kg m/s^2: 1 kg m s^-2, 0")},
		{"Resolve(B, 0, 1/h)", resolved(unit.Resolve(b, 0, "1/h")), fine("1/h: 1/3600 s^-1, 0")},
		{"Resolve(B, 0, C)", resolved(unit.Resolve(b, 0, "C")), fine("C: 1 temp, 5463/20")},
		{"Resolve(B, 0, C/s)", resolved(unit.Resolve(b, 0, "C/s")), none(api.ErrKind)},
		{"Resolve(B, 0, m  s)", resolved(unit.Resolve(b, 0, "m  s")), none(api.ErrForm)},
		{"Resolve(B, 0, m^0)", resolved(unit.Resolve(b, 0, "m^0")), none(api.ErrForm)},
		{"Resolve(B, 0, ft)", resolved(unit.Resolve(b, 0, "ft")), none(api.ErrNone)},
		{"Resolve(B, 0, 1 m)", resolved(unit.Resolve(b, 0, "1 m")), none(api.ErrForm)},
		{"Convert(B, 0, 36, km/h, m/s)", number(unit.Convert(b, 0, rat("36"), "km/h", "m/s")), fine("10")},
		{"Convert(B, 0, 100, C, F)", number(unit.Convert(b, 0, rat("100"), "C", "F")), fine("212")},
		{"Convert(B, 0, 1, m, s)", number(unit.Convert(b, 0, rat("1"), "m", "s")), none(api.ErrUnits)},
		{"Step(B, 0, 5, C, F)", number(unit.Step(b, 0, rat("5"), "C", "F")), fine("9")},
		{"Convert(B, 0, 0, F, K)", number(unit.Convert(b, 0, rat("0"), "F", "K")), fine("45967/180")},
		{"Versions(B, league)", versions(unit.Versions(b, "league")), fine(allVersions)},
		{"Versions(B, kC)", versions(unit.Versions(b, "kC")), fine("")},
		{"Versions(B, m^)", versions(unit.Versions(b, "m^")), none(api.ErrForm)},
		{"Move(B, 1, league, 0, 9)", number(unit.Move(b, rat("1"), "league", 0, 9)), fine("1000/1207")},
		{"Short(B, 0, 1, m s^-2)", text(unit.Short(b, 0, rat("1"), pw("m s^-2"))), fine("m/s^2")},
		{"Short(B, 0, 1000, m)", text(unit.Short(b, 0, rat("1000"), pw("m"))), fine("km")},
		{"Short(B, 0, 1/3600, s^-1)", text(unit.Short(b, 0, rat("1/3600"), pw("s^-1"))), fine("1/h")},
		{"Short(B, 0, 1, none)", text(unit.Short(b, 0, rat("1"), nil)), fine("1")},
		{"Short(B, 0, 1, m^2)", text(unit.Short(b, 0, rat("1"), pw("m^2"))), fine("m^2")},
		{"Short(B, 0, 7, m)", text(unit.Short(b, 0, rat("7"), pw("m"))), none(api.ErrNone)},
		{"List(B, 0, m, km/h)", units(unit.List(b, 0, []string{"m", "km/h"})), fine("m: 1 m, km/h: 5/18 m s^-1")},
		{"List(B, 0, m, m)", units(unit.List(b, 0, []string{"m", "m"})), none(api.ErrTwice)},
		{"List(B, 0, C)", units(unit.List(b, 0, []string{"C"})), none(api.ErrKind)},
	} {
		expect(t, x.call, x.got, x.want)
	}
}

// large is the least whole number that is too large, and nearly a tenth of it.
var large, nearly = ten(400), ten(399)

// ten prefixes, and twenty entries
const (
	manyPrefixes = "a 2, b 3, c 4, d 5, e 6, f 7, g 8, h 9, i 10, j 11"
	manyEntries  = "a 1 0, b 1 0, c 1 0, d 1 0, e 1 0, f 1 0, g 1 0, h 1 0, i 1 0, j 1 0, k 1 0, l 1 0, m 1 0, n 1 0, o 1 0, p 1 0, q 1 0, r 1 0, s 1 0, t 1 0"
)

// valid is books that are valid.
var valid = [][2]string{
	{"", ""}, {"k 1000, c 1/100", "m+ 1 0 m"}, {"abcdef 1, ABCDEF 1, zZaA 1/7", "abcdef+ 1 0"}, {"m 1", "m+ 1 0 m"}, {"k 1, kk 1, K 1", "k 2 0, K 3 0"}, {manyPrefixes, manyEntries},
	{"k " + repeat("9", 400), "m 1/" + nearly + " -" + nearly + " m^1/2 s^-7/3"}, {"", "m@0-0 1 0, m@1-1 1 0, m@2-8 2 0 s, m@9-9 1 0"}, {"", "m@9-9 1 0, m@0-8 1 0"}, {"", "m@4-5 1 0, n@4-5 1 0, m@0-3 1 0, m@6-9 1 0"}, {"", "C 1 -5463/20, F+ 1 0"},
}

// invalid is books that are not valid, with their errors. What comes behind the first error is often wrong, too.
var invalid = []struct {
	prefixes, entries string
	e                 api.Errno
}{
	{manyPrefixes + ", k 12", "", api.ErrMany}, {manyPrefixes + ", k 12", "M^2 1 0", api.ErrMany}, {" 2/4" + ", a 1, b 1, c 1, d 1, e 1, f 1, g 1, h 1, i 1, j 1", "", api.ErrMany},
	{" 1", "", api.ErrName}, {"abcdefg 1", "", api.ErrName}, {"k1 1", "", api.ErrName}, {"k_ 1", "", api.ErrName}, {"µ 1", "", api.ErrName}, {"k\x00 1", "", api.ErrName}, {"\xff 1", "", api.ErrName}, {"@ 1", "", api.ErrName}, {"[ 1", "", api.ErrName}, {"` 1", "", api.ErrName}, {"{ 1", "", api.ErrName}, {" 2/4", "", api.ErrName}, {"k 1, m2 0", "", api.ErrName}, {"k2 0, k2 1", "", api.ErrName},
	{"k 1, k 1", "", api.ErrTwice}, {"k 1, c 1, k 2", "", api.ErrTwice}, {"k 1, k 2/4", "", api.ErrTwice}, {"k 1, k 0", "m 0 0", api.ErrTwice}, {"k 1, k 1, c2 1", "", api.ErrTwice},
	{"k 2/4", "", api.ErrForm}, {"k 01", "", api.ErrForm}, {"k -2/4", "", api.ErrForm}, {"k 1/0", "", api.ErrForm}, {"k x, k 1", "", api.ErrForm}, {"k 0/2, c2 1", "", api.ErrForm}, {"k " + large, "", api.ErrLarge}, {"k -1/" + large, "", api.ErrLarge},
	{"k 0", "", api.ErrValue}, {"k -1", "", api.ErrValue}, {"k -1/3, k 1", "", api.ErrValue}, {"c 1, k 0", manyEntries + ", u 1 0", api.ErrValue}, {"k 0, m2 1", "", api.ErrValue},
	{"", manyEntries + ", u 1 0", api.ErrMany}, {"k 1", "m2 0 0, " + manyEntries, api.ErrMany},
	{"", " 1 0", api.ErrName}, {"", "abcdefg 1 0", api.ErrName}, {"", "m2 1 0", api.ErrName}, {"", "m^2 0 0", api.ErrName}, {"", "1 1 0", api.ErrName}, {"", "é 1 0", api.ErrName}, {"", "m/s 2/4 0", api.ErrName}, {"", "m 1 0, m2@1-0 0 2/4 M", api.ErrName}, {"", "m2 1 0, m2 1 0", api.ErrName},
	{"", "m 0 0", api.ErrValue}, {"", "m -1 0", api.ErrValue}, {"", "m 0 2/4 M", api.ErrValue}, {"", "m -1/2 0, n2 1 0", api.ErrValue}, {"", "m 1 0, m 0 0", api.ErrValue},
	{"", "m 2/4 0", api.ErrForm}, {"", "m 0/2 0", api.ErrForm}, {"", "m -01 0", api.ErrForm}, {"", "m " + large + " 2/4", api.ErrLarge}, {"", "m 1/" + large + " 0", api.ErrLarge},
	{"", "m 1 2/4", api.ErrForm}, {"", "m 1 -0", api.ErrForm}, {"", "m 1 0/5 M", api.ErrForm}, {"", "m 1 " + large + " M", api.ErrLarge}, {"", "m+ 1 2/4", api.ErrForm}, {"", "m@1-0 1 x", api.ErrForm},
	{"", "m 1 0 M", api.ErrName}, {"", "m 1 0 abcdefghi", api.ErrName}, {"", "m 1 0 s m", api.ErrOrder}, {"", "m 1 0 m m", api.ErrOrder}, {"", "m 1 0 m^2/4", api.ErrForm}, {"", "m 1 0 m^" + large, api.ErrLarge}, {"", "m 1 0 m^0", api.ErrValue}, {"", "m+ 1 5 m^0", api.ErrValue}, {"", "m@1-0 1 0 m^0", api.ErrValue},
	{"", "m+ 1 5", api.ErrKind}, {"", "m+ 1 -1/3 m", api.ErrKind}, {"", "m+@3-2 1 5", api.ErrKind}, {"", "n 1 0, n+ 1 5", api.ErrKind}, {"", "m+ 1 5, n2 1 0", api.ErrKind},
	{"", "m@1-0 1 0", api.ErrRange}, {"", "m@0-10 1 0", api.ErrRange}, {"", "m@10-10 1 0", api.ErrRange}, {"", "m@9-8 1 0", api.ErrRange}, {"", "m 1 0, m@5-10 1 0", api.ErrRange}, {"", "m@0-10 1 0, n2 1 0", api.ErrRange},
	{"", "m 1 0, m 1 0", api.ErrTwice}, {"", "m@0-3 1 0, m@3-9 1 0", api.ErrTwice}, {"", "m@3-9 1 0, m@0-3 1 0", api.ErrTwice}, {"", "m@2-3 1 0, m@0-9 1 0", api.ErrTwice}, {"", "m@0-9 1 0, m@5-5 1 0", api.ErrTwice}, {"", "m@0-1 1 0, n 1 0, m@4-5 1 0, m@5-9 1 0", api.ErrTwice}, {"", "m@9-9 1 0, m@9-9 1 0 s", api.ErrTwice}, {"", "m@0-4 1 0, m@4-4 1 0, n2 1 0", api.ErrTwice},
}

// arguments is what the calls take beside a book.
type arguments struct {
	version, to  int
	x            api.Rat
	from, second string
	texts        []string
	dim          []api.Power
}

// wrong is arguments of which each one is an error.
func wrong() arguments {
	return arguments{-1, 10, rat("2/4"), "", "", slices.Repeat([]string{""}, 41), pw("M")}
}

// A call is a function of the package, and what it returns.
type call struct {
	name string
	got  outcome
}

// calls makes every call of the package. The last two take no version.
func calls(b api.UnitBook, x arguments) []call {
	return []call{
		{"Find", found(unit.Find(b, x.version, x.from))}, {"Resolve", resolved(unit.Resolve(b, x.version, x.from))}, {"Convert", number(unit.Convert(b, x.version, x.x, x.from, x.second))}, {"Step", number(unit.Step(b, x.version, x.x, x.from, x.second))}, {"List", units(unit.List(b, x.version, x.texts))},
		{"Move", number(unit.Move(b, x.x, x.from, x.version, x.to))}, {"Short", text(unit.Short(b, x.version, x.x, x.dim))}, {"Versions", versions(unit.Versions(b, x.from))}, {"Check", only(unit.Check(b))},
	}
}

// P4.1, and the errors of a book come before all others.
func TestBooks(t *testing.T) {
	for _, x := range valid {
		expect(t, "Check of "+x[0]+"; "+x[1], only(unit.Check(book(x[0], x[1]))), fine(""))
	}
	for _, x := range invalid {
		for _, c := range calls(book(x.prefixes, x.entries), wrong()) {
			expect(t, c.name+" with "+x.prefixes+"; "+x.entries, c.got, none(x.e))
		}
	}
}

// P4.1: what a text cannot say.
func TestOtherBooks(t *testing.T) {
	for _, x := range []struct {
		change func(e *api.UnitEntry)
		e      api.Errno
	}{
		{func(e *api.UnitEntry) { e.Prefixed = 2 }, api.ErrKind}, {func(e *api.UnitEntry) { e.Prefixed = -1 }, api.ErrKind}, {func(e *api.UnitEntry) { e.Prefixed, e.Offset = 2, rat("1") }, api.ErrKind}, {func(e *api.UnitEntry) { e.Prefixed, e.Since = -1, -1 }, api.ErrKind}, {func(e *api.UnitEntry) { e.Prefixed, e.Dim = 2, pw("M") }, api.ErrName},
		{func(e *api.UnitEntry) { e.Since = -1 }, api.ErrRange}, {func(e *api.UnitEntry) { e.Since, e.Until = -2, -1 }, api.ErrRange}, {func(e *api.UnitEntry) { e.Until = -1 }, api.ErrRange}, {func(e *api.UnitEntry) { e.Since, e.Until = 1<<62, 1<<62 }, api.ErrRange}, {func(e *api.UnitEntry) { e.Since = -1 << 63 }, api.ErrRange},
		{func(e *api.UnitEntry) { e.Factor = api.Rat{} }, api.ErrForm}, {func(e *api.UnitEntry) { e.Offset = api.Rat{} }, api.ErrForm}, {func(e *api.UnitEntry) { e.Dim = []api.Power{{}} }, api.ErrName},
	} {
		b := example()
		x.change(&b.Entries[3])
		for _, c := range calls(b, wrong()) {
			expect(t, c.name+" with "+described(b), c.got, none(x.e))
		}
	}
	many := example()
	many.Prefixes = slices.Repeat(many.Prefixes, 1000)
	many.Entries = slices.Repeat(many.Entries, 1000)
	expect(t, "Check of many", only(unit.Check(many)), none(api.ErrMany))
}

// The errors of versions, numbers and texts come in this order.
func TestOrder(t *testing.T) {
	b := example()
	for _, version := range []int{-1, 10, 1 << 62, -1 << 63} {
		x := wrong()
		x.version = version
		for _, c := range calls(b, x)[:7] {
			expect(t, c.name, c.got, none(api.ErrRange))
		}
		expect(t, "Move to a version", number(unit.Move(b, rat("2/4"), "", 0, version)), none(api.ErrRange))
	}
	for _, x := range []struct {
		n string
		e api.Errno
	}{{"2/4", api.ErrForm}, {"1/0", api.ErrForm}, {"", api.ErrForm}, {"0.5", api.ErrForm}, {large, api.ErrLarge}, {"-1/" + large, api.ErrLarge}} {
		expect(t, "Convert of "+x.n, number(unit.Convert(b, 0, rat(x.n), "", "")), none(x.e))
		expect(t, "Step of "+x.n, number(unit.Step(b, 9, rat(x.n), "ft", "m^")), none(x.e))
		expect(t, "Move of "+x.n, number(unit.Move(b, rat(x.n), "", 0, 9)), none(x.e))
		expect(t, "Short of "+x.n, text(unit.Short(b, 0, rat(x.n), pw("M"))), none(x.e))
	}
	for _, n := range []string{"0", "-1", "-1/2"} {
		expect(t, "Short of "+n, text(unit.Short(b, 0, rat(n), pw("M"))), none(api.ErrValue))
	}
	for _, x := range []struct {
		d string
		e api.Errno
	}{{"M", api.ErrName}, {"s m", api.ErrOrder}, {"m^2/4", api.ErrForm}, {"m^0", api.ErrValue}, {"m^" + large, api.ErrLarge}} {
		expect(t, "Short of "+x.d, text(unit.Short(b, 0, rat("7"), pw(x.d))), none(x.e))
	}
}

// P4.1
func TestFind(t *testing.T) {
	shadow := book("k 1000, c 1/100, kk 5, ck 2, kkk 3, kkkkkk 3", "m+ 1 0 m, g+ 1/1000 0 kg, s 1 0 s, km 7 0 m, kg+ 1 0 kg, league@0-3 4000 0 m, league@4-9 4828 0 m, K 1 0, abcde+ 1 0, c@5-9 1 0, cm@5-6 3 0")
	for _, x := range []struct {
		version int
		word    string
		want    outcome
	}{
		{0, "m", fine("-1 0")}, {9, "m", fine("-1 0")}, {0, "km", fine("-1 3")}, {0, "kkm", fine("2 0")}, {0, "kkkm", fine("4 0")}, {0, "ckm", fine("3 0")}, {0, "kkg", fine("0 4")}, {0, "ckg", fine("1 4")}, {0, "kg", fine("-1 4")}, {0, "g", fine("-1 1")}, {0, "cg", fine("1 1")}, {0, "kkkkkg", none(api.ErrNone)}, {0, "kkkkg", fine("4 4")},
		{4, "cm", fine("1 0")}, {5, "cm", fine("-1 10")}, {6, "cm", fine("-1 10")}, {7, "cm", fine("1 0")}, {4, "c", none(api.ErrNone)}, {5, "c", fine("-1 9")}, {3, "league", fine("-1 5")}, {4, "league", fine("-1 6")}, {0, "kabcde", fine("0 8")}, {0, "kkabcde", none(api.ErrName)},
		{0, "ks", none(api.ErrNone)}, {0, "k", none(api.ErrNone)}, {0, "kk", none(api.ErrNone)}, {0, "kkkkkk", none(api.ErrNone)}, {0, "M", none(api.ErrNone)}, {0, "mk", none(api.ErrNone)}, {0, "Km", none(api.ErrNone)}, {0, "kkm", fine("2 0")}, {0, "mm", none(api.ErrNone)}, {0, "abcdef", none(api.ErrNone)},
		{0, "", none(api.ErrName)}, {0, "abcdefg", none(api.ErrName)}, {0, "m2", none(api.ErrName)}, {0, "m^2", none(api.ErrName)}, {0, "k m", none(api.ErrName)}, {0, "1", none(api.ErrName)}, {0, "é", none(api.ErrName)}, {0, "m\x00", none(api.ErrName)}, {0, "\xff", none(api.ErrName)}, {0, repeat("m", 1<<16), none(api.ErrName)},
	} {
		expect(t, "Find of "+x.word, found(unit.Find(shadow, x.version, x.word)), x.want)
	}
	expect(t, "Find without entries", found(unit.Find(book("k 1", ""), 0, "k")), none(api.ErrNone))
	expect(t, "Find of an entry that is a prefix", found(unit.Find(book("m 2", "m+ 1 0"), 0, "m")), fine("-1 0"))
	expect(t, "Find of a prefix before an entry", found(unit.Find(book("m 2", "m+ 1 0"), 0, "mm")), fine("0 0"))
}

// P4.2, and texts as P4.5 has them
func TestResolve(t *testing.T) {
	b := example()
	for _, x := range []struct{ text, want string }{
		{"1", "1, 0"}, {"m", "1 m, 0"}, {"km", "1000 m, 0"}, {"kg", "1 kg, 0"}, {"kg m/s^2", "1 kg m s^-2, 0"}, {"1/h", "1/3600 s^-1, 0"}, {"C", "1 temp, 5463/20"}, {"F", "5/9 temp, 45967/180"}, {"K/s", "1 s^-1 temp, 0"}, {"1/m", "1 m^-1, 0"}, {"1/m^2", "1 m^-2, 0"}, {"1/m^-2", "1 m^2, 0"}, {"1/m s", "1 m^-1 s, 0"}, {"1/m/s", "1 m^-1 s^-1, 0"},
		{"km^2", "1000000 m^2, 0"}, {"cm^-1", "100 m^-1, 0"}, {"m^1", "1 m, 0"}, {"m/cm^-1", "1/100 m^2, 0"}, {"m/m", "1, 0"}, {"km/m", "1000, 0"}, {"m s^2 s^-2 m^1", "1 m^2, 0"}, {"1/m^-9 s", "1 m^9 s, 0"}, {"m/s/s", "1 m s^-2, 0"}, {"m/s s", "1 m, 0"}, {"m/h kg/K", "1/3600 kg m s^-1 temp^-1, 0"}, {"s kg m", "1 kg m s, 0"}, {"league/h", "10/9 m s^-1, 0"}, {"kg^9", "1 kg^9, 0"}, {"h^-9", "1/" + "101559956668416000000000000000000" + " s^-9, 0"}, {"km km km km", "1000000000000 m^4, 0"}, {"league league league", "64000000000 m^3, 0"}, {"cm^-9 cm^-9", ten(36) + " m^-18, 0"},
	} {
		expect(t, "Resolve of "+x.text, resolved(unit.Resolve(b, 0, x.text)), fine(x.text+": "+x.want))
		expect(t, "Versions of "+x.text, versions(unit.Versions(b, x.text)), fine(allVersions))
	}
	expect(t, "Resolve in another version", resolved(unit.Resolve(b, 4, "league/h")), fine("league/h: 1207/900 m s^-1, 0"))
}

// P4.2 and P4.5: what is no unit text.
func TestNoUnitTexts(t *testing.T) {
	b := example()
	for _, s := range []string{"abcdefghijklmnopqrstu", "m m m m m m m m m m m", repeat("^", 21), repeat(" ", 1<<16), "1" + repeat("/", 20), "m m m m m m m m m m2 x", "kg m/s^2 kg m/s^2 kg m"} {
		expect(t, "Resolve of "+s, resolved(unit.Resolve(b, 0, s)), none(api.ErrLarge))
		expect(t, "Versions of "+s, versions(unit.Versions(b, s)), none(api.ErrLarge))
	}
	for _, s := range []string{
		"", " ", "/", "^", "^2", "-", "m  s", " m", "m ", "m/", "1/", "1 ", "1 m", "1//m", "1/1", "1/1/m", "m/1", "m 1", "11", "1m", "m1", "2", "0", "0/m", "2/m", "-1", "m//s", "m /s", "m/ s", "m^", "m^-", "m^ 2", "m^0", "m^-0", "m^10", "m^-10", "m^+2", "m^--2", "m^2^2", "m^2-", "m^x", "m^1/2/2", "m^2m", "m^(2)", "m*s", "m.s", "m,s", "m\ts", "m\n", "m\x00", "é", "m\xff", "m^٣", "m-2", "m2", "(m)", "1^2", "m s^", "m m m m m ", "m m m m m^0", "abcdefghijklmnopqrs ", "ft^0", "C/", "/m", "1/^2", "m ^2", "m^2 ", "M m^a", "1/m ", "@", "[", "`", "{",
	} {
		expect(t, "Resolve of "+s, resolved(unit.Resolve(b, 0, s)), none(api.ErrForm))
		expect(t, "Versions of "+s, versions(unit.Versions(b, s)), none(api.ErrForm))
	}
	for _, s := range []string{"m m m m m", "1/m m m m m", "m m m m m m m m m m", "m m m ft abcdefg", "a/b/c/d/e/f/g/h/i/j", "C C C C C", "m^2 m^2 m^2 m^2 m^2"} {
		expect(t, "Resolve of "+s, resolved(unit.Resolve(b, 0, s)), none(api.ErrMany))
		expect(t, "Versions of "+s, versions(unit.Versions(b, s)), none(api.ErrMany))
	}
	for _, x := range []struct {
		text     string
		resolve  api.Errno
		versions outcome
	}{
		{"abcdefg", api.ErrName, none(api.ErrName)}, {"abcdefghijklmnopqrst", api.ErrName, none(api.ErrName)}, {"m abcdefg^2", api.ErrName, none(api.ErrName)}, {"1/abcdefg", api.ErrName, none(api.ErrName)}, {"abcdefg ft", api.ErrName, none(api.ErrName)}, {"ft abcdefg", api.ErrNone, none(api.ErrName)}, {"C abcdefg", api.ErrKind, none(api.ErrName)}, {"m s m abcdefg", api.ErrName, none(api.ErrName)},
		{"ft", api.ErrNone, fine("")}, {"ft^2", api.ErrNone, fine("")}, {"m/ft", api.ErrNone, fine("")}, {"kC", api.ErrNone, fine("")}, {"ks", api.ErrNone, fine("")}, {"ft C m", api.ErrNone, fine("")}, {"m ft C", api.ErrNone, fine("")},
		{"C/s", api.ErrKind, fine("")}, {"s/C", api.ErrKind, fine("")}, {"C^1", api.ErrKind, fine("")}, {"C^2", api.ErrKind, fine("")}, {"1/C", api.ErrKind, fine("")}, {"C ft", api.ErrKind, fine("")}, {"C C", api.ErrKind, fine("")}, {"m s K F", api.ErrKind, fine("")}, {"C/C", api.ErrKind, fine("")}, {"C^-1", api.ErrKind, fine("")},
	} {
		expect(t, "Resolve of "+x.text, resolved(unit.Resolve(b, 0, x.text)), none(x.resolve))
		expect(t, "Versions of "+x.text, versions(unit.Versions(b, x.text)), x.versions)
	}
}

// long returns a book whose numbers are so long that their products are too large.
func long() api.UnitBook {
	return book("k "+nearly, "m+ "+nearly+" 0 m, n "+repeat("9", 400)+" 0 m, s 1/"+nearly+" 0 s^"+nearly+", h 7 0 s^1/"+repeat("7", 200)+", i 7 0 s^1/3"+repeat("9", 300)+", C 1 "+nearly+" m, D 1/10 0 m")
}

// Numbers on the way can be of any size, and those of the result cannot.
func TestLongNumbers(t *testing.T) {
	b := long()
	for _, x := range []struct{ text, want string }{
		{"m^2 m^-1", nearly + " m, 0"}, {"km/m", nearly + ", 0"}, {"km^9/km^8/m", nearly + ", 0"}, {"m s", "1 m s^" + nearly + ", 0"}, {"s^9/s^8", "1/" + nearly + " s^" + nearly + ", 0"}, {"h^2 h^-2", "1, 0"}, {"C", "1 m, " + nearly},
	} {
		expect(t, "Resolve of "+x.text, resolved(unit.Resolve(b, 0, x.text)), fine(x.text+": "+x.want))
	}
	for _, s := range []string{"km", "m^2", "1/m^2", "n m", "s^-2", "m^9 m^9 m^9 m^9", "h i", "km^9/m"} {
		expect(t, "Resolve of "+s, resolved(unit.Resolve(b, 0, s)), none(api.ErrLarge))
		expect(t, "Versions of "+s, versions(unit.Versions(b, s)), fine(allVersions))
	}
	for _, x := range []struct {
		n, from, to string
		want        outcome
	}{
		{"3", "km^9", "km^9", fine("3")}, {"1", "km", "m", fine(nearly)}, {"-1/7", "m^9 km^9", "m^9 km^8 m", fine("-" + nearly + "/7")}, {"2", "s^9 s^9", "s^8 s^9 s", fine("2")}, {"5", "h i", "i h", fine("5")}, {"10", "km", "m", none(api.ErrLarge)}, {"1", "km^2", "m^2", none(api.ErrLarge)}, {"1", "m", "km^1", fine("1/" + nearly)}, {"1/10", "m", "km", none(api.ErrLarge)}, {"1", "s^9", "s^8 h", none(api.ErrUnits)}, {"1", "km^9 km^9", "s^9 s^9", none(api.ErrUnits)}, {"1", "h i", "h h", none(api.ErrUnits)},
	} {
		expect(t, "Convert from "+x.from+" to "+x.to, number(unit.Convert(b, 0, rat(x.n), x.from, x.to)), x.want)
		expect(t, "Step from "+x.from+" to "+x.to, number(unit.Step(b, 9, rat(x.n), x.from, x.to)), x.want)
	}
	expect(t, "Convert to an offset", number(unit.Convert(b, 0, rat(repeat("9", 400)), "C", "D")), none(api.ErrLarge))
	expect(t, "Convert by a long sum", number(unit.Convert(b, 0, rat("-"+nearly), "C", "D")), fine("0"))
	expect(t, "Convert by longer sums", number(unit.Convert(b, 0, rat(repeat("9", 400)), "C", "C")), fine(repeat("9", 400)))
	expect(t, "Step to D", number(unit.Step(b, 0, rat(nearly), "C", "D")), none(api.ErrLarge))
}

// P4.3
func TestConvertAndStep(t *testing.T) {
	b := example()
	for _, x := range []struct{ n, from, to, convert, step string }{
		{"36", "km/h", "m/s", "10", "10"}, {"100", "C", "F", "212", "180"}, {"0", "F", "K", "45967/180", "0"}, {"5", "C", "F", "41", "9"}, {"-40", "F", "C", "-40", "-200/9"}, {"0", "K", "C", "-5463/20", "0"}, {"7", "C", "C", "7", "7"}, {"0", "C", "K", "5463/20", "0"}, {"1", "K", "F", "-45787/100", "9/5"}, {"1", "C", "K^1", "5483/20", "1"}, {"1", "C", "K s/s", "5483/20", "1"},
		{"1", "league", "km", "4", "4"}, {"1/3", "m", "cm", "100/3", "100/3"}, {"2", "1", "m/m", "2", "2"}, {"-3", "s", "h", "-1/1200", "-1/1200"}, {"0", "m", "km", "0", "0"}, {"1", "h/s", "1", "3600", "3600"}, {"1", "m", "kg m/kg", "1", "1"}, {"5", "1/s", "s^-1", "5", "5"}, {"5", "1/h", "h^-2 s", "18000", "18000"},
	} {
		expect(t, "Convert from "+x.from+" to "+x.to, number(unit.Convert(b, 0, rat(x.n), x.from, x.to)), fine(x.convert))
		expect(t, "Step from "+x.from+" to "+x.to, number(unit.Step(b, 0, rat(x.n), x.from, x.to)), fine(x.step))
	}
	expect(t, "Convert in version 3", number(unit.Convert(b, 3, rat("1"), "league", "m")), fine("4000"))
	expect(t, "Convert in version 4", number(unit.Convert(b, 4, rat("1"), "league", "m")), fine("4828"))
	for _, x := range []struct {
		from, to string
		e        api.Errno
	}{
		{"m", "s", api.ErrUnits}, {"1", "m", api.ErrUnits}, {"m^2", "m", api.ErrUnits}, {"m/s", "s/m", api.ErrUnits}, {"C", "m", api.ErrUnits}, {"m", "", api.ErrForm}, {"", "ft", api.ErrForm}, {"ft", "", api.ErrNone}, {"ft", "m", api.ErrNone}, {"m", "ft", api.ErrNone}, {"C", "C/s", api.ErrKind}, {"C^1", "abcdefg", api.ErrKind}, {"abcdefg", "C^1", api.ErrName}, {"m", repeat("m", 21), api.ErrLarge}, {"m m m m m", "", api.ErrMany}, {"m", "m m m m m", api.ErrMany}, {"ft", repeat("m", 21), api.ErrNone},
	} {
		expect(t, "Convert from "+x.from+" to "+x.to, number(unit.Convert(b, 0, rat("1"), x.from, x.to)), none(x.e))
		expect(t, "Step from "+x.from+" to "+x.to, number(unit.Step(b, 0, rat("1"), x.from, x.to)), none(x.e))
	}
}

// P4.4
func TestList(t *testing.T) {
	b := example()
	var forty, wants []string
	for _, word := range []string{"m", "km", "cm", "g", "kg", "cg", "s", "h", "K", "league"} {
		for _, power := range []string{"", "^1", "^2", "^-3"} {
			forty = append(forty, word+power)
			u, _, _ := unit.Resolve(b, 0, word+power)
			wants = append(wants, word+power+": "+plain(u))
		}
	}
	for _, x := range []struct {
		texts []string
		want  outcome
	}{
		{nil, fine("")}, {[]string{"1"}, fine("1: 1")}, {[]string{"m", "km/h", "1"}, fine("m: 1 m, km/h: 5/18 m s^-1, 1: 1")}, {[]string{"m", "m^1", "m m/m"}, fine("m: 1 m, m^1: 1 m, m m/m: 1 m")}, {forty, fine(strings.Join(wants, ", "))},
		{slices.Repeat([]string{""}, 41), none(api.ErrMany)}, {append(forty[:40:40], "1"), none(api.ErrMany)}, {[]string{"m", "m"}, none(api.ErrTwice)}, {[]string{"m", "s", "K", "s"}, none(api.ErrTwice)}, {[]string{"C"}, none(api.ErrKind)}, {[]string{"C", "C"}, none(api.ErrKind)}, {[]string{"m", "m", "C"}, none(api.ErrTwice)}, {[]string{"C", "m", "m"}, none(api.ErrKind)}, {[]string{"m", "ft", "m"}, none(api.ErrNone)}, {[]string{"m", "m", "ft"}, none(api.ErrTwice)}, {[]string{"m", "", "m"}, none(api.ErrForm)}, {[]string{"", ""}, none(api.ErrForm)}, {[]string{"C/s", ""}, none(api.ErrKind)}, {[]string{"m", "abcdefg", "abcdefg"}, none(api.ErrName)}, {[]string{repeat("m", 21), "C"}, none(api.ErrLarge)}, {[]string{"m m m m m", "C"}, none(api.ErrMany)},
	} {
		expect(t, "List of "+strings.Join(x.texts, ", "), units(unit.List(b, 0, x.texts)), x.want)
	}
	expect(t, "List in a version", units(unit.List(b, 9, []string{"league"})), fine("league: 4828 m"))
	expect(t, "List of what is too large", units(unit.List(long(), 0, []string{"m", "km"})), none(api.ErrLarge))
	expect(t, "List of what is too large before an error", units(unit.List(long(), 0, []string{"km", "m", "m"})), none(api.ErrTwice))
	expect(t, "List of what is too large before an offset", units(unit.List(long(), 0, []string{"s^9", "C"})), none(api.ErrKind))
}

// P4.5
func TestVersions(t *testing.T) {
	b := book("k 1000, c 1/100", "m+ 1 0 m, ft@2-4 1/3 0 m, ft@6-6 3/10 0 m, ft@8-9 1/4 0 s, C@0-5 1 7 temp, C+@6-9 1 0 temp, km@5-7 1 3 m, g+@3-8 1 0 kg, old@0-0 1 0, new@9-9 1 0")
	for _, x := range []struct{ text, want string }{
		{"1", allVersions}, {"m", allVersions}, {"ft", "2 3 4 6 8 9"}, {"m/ft^2", "2 3 4 6 8 9"}, {"C", allVersions}, {"C^1", "6 7 8 9"}, {"kC", "6 7 8 9"}, {"C/ft", "6 8 9"}, {"km", allVersions}, {"km^2", "0 1 2 3 4 8 9"}, {"cm^2", allVersions}, {"g ft", "3 4 6 8"}, {"kg km", "3 4 8"}, {"old", "0"}, {"new", "9"}, {"old new", ""}, {"kft", ""}, {"x", ""}, {"m^-9 m^9 m^9 m^9", allVersions}, {"1/g", "3 4 5 6 7 8"},
	} {
		expect(t, "Versions of "+x.text, versions(unit.Versions(b, x.text)), fine(x.want))
	}
	for _, x := range []struct {
		text string
		e    api.Errno
	}{{repeat("m", 21), api.ErrLarge}, {"m m m m m", api.ErrMany}, {"m^", api.ErrForm}, {"x abcdefg", api.ErrName}, {"abcdefg m m m m", api.ErrMany}} {
		expect(t, "Versions of "+x.text, versions(unit.Versions(b, x.text)), none(x.e))
	}
}

// P4.6
func TestMove(t *testing.T) {
	b := book("k 1000", "m+ 1 0 m, ft@0-4 1/3 0 m, ft@5-7 3/10 0 m, ft@8-9 1/4 0 s, C@0-4 1 7 temp, C@5-8 1/2 3 temp, C+@9-9 2 0 temp, km@5-6 900 0 m, old@0-5 1 0, big@0-0 "+nearly+" 0 m^"+nearly+", big@1-1 1/"+nearly+" 0 m^"+nearly+", big@2-9 1 0 m^2")
	for _, x := range []struct {
		n, text  string
		from, to int
		want     outcome
	}{
		{"9", "ft", 0, 5, fine("10")}, {"10", "ft", 7, 4, fine("9")}, {"9", "ft", 0, 4, fine("9")}, {"9", "ft", 3, 3, fine("9")}, {"81", "ft^2", 0, 5, fine("100")}, {"9", "m/ft", 0, 5, fine("81/10")}, {"5", "m", 0, 9, fine("5")}, {"-1/7", "1", 0, 9, fine("-1/7")}, {"1", "ft/ft", 0, 9, fine("1")},
		{"1", "C", 0, 5, fine("10")}, {"10", "C", 5, 4, fine("1")}, {"1", "C", 0, 9, fine("4")}, {"-4", "C", 9, 5, fine("-22")}, {"5", "C", 1, 2, fine("5")}, {"9", "km", 0, 5, fine("10")}, {"1", "km", 6, 7, fine("9/10")},
		{"1", "ft", 0, 8, none(api.ErrUnits)}, {"1", "ft", 8, 7, none(api.ErrUnits)}, {"1", "old", 5, 6, none(api.ErrNone)}, {"1", "old", 6, 5, none(api.ErrNone)}, {"1", "kC", 8, 9, none(api.ErrNone)}, {"1", "C^1", 9, 8, none(api.ErrKind)}, {"1", "C^1", 8, 9, none(api.ErrKind)}, {"1", "x", 0, 0, none(api.ErrNone)}, {"1", "", 0, 0, none(api.ErrForm)}, {"1", "old C^1", 9, 0, none(api.ErrNone)}, {"1", "old C^1", 0, 9, none(api.ErrKind)}, {"1", "abcdefg", 0, 1, none(api.ErrName)}, {"1", "m m m m m", 0, 1, none(api.ErrMany)}, {"1", repeat("m", 21), 0, 1, none(api.ErrLarge)},
		{"1", "big^9/big^9", 0, 1, fine("1")}, {"7", "big^9", 0, 0, fine("7")}, {"1", "big", 0, 1, none(api.ErrLarge)}, {"1", "big", 1, 2, none(api.ErrUnits)}, {"1/" + nearly, "big", 0, 1, fine(nearly)}, {"0", "big^9 big^9", 0, 1, fine("0")},
	} {
		expect(t, "Move of "+x.text, number(unit.Move(b, rat(x.n), x.text, x.from, x.to)), x.want)
	}
}

// P4.7
func TestShort(t *testing.T) {
	b := with("mono 1 0, km@5-9 7 0 m, E 10 0, L@6-9 3 0 m^1/2")
	for _, x := range []struct {
		version           int
		factor, dim, want string
	}{
		{0, "1", "", "1"}, {0, "1", "m", "m"}, {0, "1", "m^2", "m^2"}, {0, "1", "m^3", "m^3"}, {0, "1", "m^-1", "1/m"}, {0, "1", "m^-2", "m^-2"}, {0, "1", "m^-3", "m^-3"}, {0, "1", "m^4", "m m^3"}, {0, "1", "m^6", "m^3 m^3"}, {0, "1", "m^-4", "m^-3/m"}, {0, "1", "m^-6", "m^-3/m^3"}, {0, "1", "m s", "m s"}, {0, "1", "m s^-1", "m/s"}, {0, "1", "m^-1 s", "s/m"}, {0, "1", "m^-1 s^-1", "1/m/s"}, {0, "1", "m^-2 s^-1", "m^-2/s"}, {0, "1", "m^-2 s^-2", "m^-2/s^2"}, {0, "1", "m^-1 s^2", "s^2/m"}, {0, "1", "m^3 s^3", "m^3 s^3"}, {0, "1", "m s^-2", "m/s^2"},
		{0, "1", "kg", "kg"}, {0, "1/1000", "kg", "g"}, {0, "1/1000000", "kg^2", "g^2"}, {0, "1", "kg^2", "kg^2"}, {0, "1000", "m", "km"}, {0, "1000", "m kg^-1", "m/g"}, {0, "4000", "m", "league"}, {4, "4828", "m", "league"}, {0, "5/18", "m s^-1", "km/h"}, {0, "3600", "s", "h"}, {0, "1", "temp", "K"}, {0, "1", "temp^-1", "1/K"}, {0, "1", "temp^3", "K^3"},
		{0, "10", "", "E"}, {0, "100", "", "E^2"}, {0, "1000", "", "E^3"}, {0, "10000", "", "E E^3"}, {0, "1/10", "", "1/E"}, {0, "10", "m", "E m"}, {0, "1000000", "m", "E^3 km"}, {6, "3", "m^1/2", "L"}, {6, "9", "m", "L^2"}, {6, "27", "m^3/2", "L^3"}, {6, "3", "m^3/2", "L m"}, {6, "7", "m", "km"},
	} {
		expect(t, "Short of "+x.factor+" "+x.dim, text(unit.Short(b, x.version, rat(x.factor), sorted(pw(x.dim)))), fine(x.want))
	}
	for _, x := range []struct {
		version     int
		factor, dim string
	}{{0, "7", "m"}, {0, "1", "m^7"}, {0, "1", "cd"}, {0, "1", "kg m s"}, {0, "1", "m^1/2"}, {0, "4828", "m"}, {4, "4000", "m"}, {5, "1000", "kg m"}, {0, "5/9", "temp"}, {0, "25/81", "temp^2"}, {0, nearly, ""}, {0, "1/" + nearly, "m"}, {0, "1", "m^" + nearly}, {5, "7", "m^1/2"}} {
		expect(t, "Short of "+x.factor+" "+x.dim, text(unit.Short(b, x.version, rat(x.factor), pw(x.dim))), none(api.ErrNone))
	}
	expect(t, "Short without entries", text(unit.Short(api.UnitBook{}, 9, rat("1"), nil)), fine("1"))
	expect(t, "Short of 2 without entries", text(unit.Short(api.UnitBook{}, 9, rat("2"), nil)), none(api.ErrNone))
}

// sorted returns the powers in the order of their bases.
func sorted(d []api.Power) []api.Power {
	slices.SortFunc(d, func(p, q api.Power) int { return strings.Compare(p.Base, q.Base) })
	return d
}

// P4.7: the fewest bytes, then the fewest factors, then the order of bytes; and words that stand for something else.
func TestShortest(t *testing.T) {
	for _, x := range []struct {
		prefixes, entries, factor, dim string
		want                           outcome
	}{
		{"", "a 1 0", "1", "", fine("1")}, {"", "abc 1 0 m, a 1 0 m^1/2", "1", "m", fine("a^2")}, {"", "abc 1 0 m, a 1 0 m^1/3, b 1 0 m^2/3", "1", "m", fine("a^3")}, {"", "abc 1 0 m, c 1 0 m^1/3, b 1 0 m^2/3", "1", "m", fine("abc")}, {"", "abcd 1 0 m, c 1 0 m^1/3, b 1 0 m^2/3", "1", "m", fine("c^3")}, {"", "c 1 0 m^1/4, b 1 0 m^3/4", "1", "m", fine("b c")}, {"", "c 1 0 m^1/4, b 1 0 m^3/4, B 1 0 m^3/4", "1", "m", fine("B c")}, {"", "b 1 0 m, a 1 0 m, B 1 0 m", "1", "m", fine("B")},
		{"", "d 1 0 m^-1", "1", "m", fine("1/d")}, {"", "d 1 0 m^-1, e 1 0 m^1/2", "1", "m", fine("1/d")}, {"", "f 1 0 m^-1, e 1 0 m^1/2", "1", "m", fine("1/f")}, {"", "b 1 0 m^2, c 1 0 m^-1, d 1 0 m^1/3", "1", "m", fine("1/c")}, {"", "b 1 0 m^2, c 1 0 m, d 1 0 m", "1", "", fine("1")}, {"", "c 1 0 m^1/2, aaaa 1 0 m", "2", "m", none(api.ErrNone)}, {"", "z 1 0 m, c 2 0, b 2 0", "2", "m", fine("b z")}, {"", "z 2 0 s, c 1 0 s, y 1 0", "2", "", fine("z/c")},
		{"k 1000", "m+ 1 0 m, km 7 0 m", "1000", "m", none(api.ErrNone)}, {"k 1000", "m+ 1 0 m, km 7 0 m", "7", "m", fine("km")}, {"k 1000, kk 5", "m+ 1 0 m, km+ 7 0 m", "7000", "m", fine("kkm")}, {"kk 5, k 1000", "m+ 1 0 m, km+ 7 0 m", "7000", "m", none(api.ErrNone)}, {"kk 5, k 1000", "m+ 1 0 m, km+ 7 0 m", "5", "m", fine("kkm")}, {"k 1000, kk 5", "m+ 1 0 m, km+ 7 0 m", "35", "m", fine("kkkm")}, {"abc 1000", "defg+ 1 0 m, def+ 1 0 s", "1000", "m", none(api.ErrNone)}, {"abc 1000", "defg+ 1 0 m, def+ 1 0 s", "1000", "s", fine("abcdef")},
		{"", "C 1 5 m", "1", "m", none(api.ErrNone)}, {"", "C 1 5 m, D 1 0 m", "1", "m", fine("D")}, {"", "C 1 5 m, D 1 0 s", "1", "m s", none(api.ErrNone)}, {"k 1000", "kC 1 5 m, C+ 2 0 m", "2000", "m", none(api.ErrNone)}, {"", "abcdef 1 0 m, ABCDEF 1 0 s", "1", "m^-3 s^-3", fine("ABCDEF^-3/abcdef^3")},
	} {
		expect(t, "Short of "+x.factor+" "+x.dim+" with "+x.prefixes+"; "+x.entries, text(unit.Short(book(x.prefixes, x.entries), 0, rat(x.factor), pw(x.dim))), x.want)
	}
}

// P4.7, with numbers and exponents that are too long for a result, but not in a product.
func TestShortOfLongNumbers(t *testing.T) {
	eights := repeat("8", 400)
	b := book("k 1000", "m+ "+nearly+" 0 m^"+eights+", n "+repeat("9", 400)+" 0 s^"+eights+", p "+ten(390)+" 0 m^"+eights[1:]+"7, s 1/"+nearly+" 0 m^"+eights+", D 2 0")
	for _, x := range []struct {
		factor, dim string
		want        outcome
	}{
		{"1" + repeat("0", 399), "m^" + eights, fine("m")}, {ten(9), "m", fine("m/p")}, {ten(27), "m^3", fine("m^3/p^3")}, {ten(36), "m^3", fine("km^3/p^3")}, {ten(12), "m", fine("km/p")}, {"1/" + ten(9), "m^-1", fine("p/m")}, {"8", "", fine("D^3")}, {"1000", "", fine("km/m")}, {ten(9), "", fine("km^3/m^3")}, {"1", "m", none(api.ErrNone)}, {ten(28), "m^3", none(api.ErrNone)}, {repeat("9", 400), "s^" + eights, fine("n")},
	} {
		expect(t, "Short of "+x.factor+" "+x.dim, text(unit.Short(b, 0, rat(x.factor), pw(x.dim))), x.want)
	}
}
